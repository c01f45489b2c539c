/-
  What was signed is right under its root, shows what the document says, and both functions judge it alike when it is changed.
  Conditions: none beyond the given row's own; the package variable that it reads starts as the program's text lays it (the card ties it).
-/
import Derived.Test.YtgakmjonfecnhaaDoorAt
import Derived.Test.YtgakmjonfecnhaaDoorSs
import Derived.Test.YtgakmjonfecnhaaDoorGl
import Derived.Test.YtgakmjonfecnhaaDoorGn3
import Derived.Test.YtgakmjonfecnhaaDoorLm
import Derived.Test.YtgakmjonfecnhaaDoorOb
import Derived.Test.YtgakmjonfecnhaaDoorHashLaid
import Derived.WalkKit
namespace Go.Proofs.YtgakmjonfecnhaaDoor.fnLamport
open Go.ChangeShapes Go.WideShapes Go.ChangeAt Go.RowKit
open Go.ChangeMaps (open_string shut_string)
open Go.Proofs.YtgakmjonfecnhaaDoor.Hl (own laidOut rowed door_met)

open Go.Proofs.YtgakmjonfecnhaaDoor.Sl Go.Proofs.YtgakmjonfecnhaaDoor.By Go.Proofs.YtgakmjonfecnhaaDoor.Ap Go.Proofs.YtgakmjonfecnhaaDoor.Tx Go.Proofs.YtgakmjonfecnhaaDoor.Sh Go.Proofs.YtgakmjonfecnhaaDoor.Mk Go.Proofs.YtgakmjonfecnhaaDoor.Sg Go.Proofs.YtgakmjonfecnhaaDoor.Sq Go.Proofs.YtgakmjonfecnhaaDoor.Gn Go.Proofs.YtgakmjonfecnhaaDoor.Cs Go.Proofs.YtgakmjonfecnhaaDoor.Lm Go.Proofs.YtgakmjonfecnhaaDoor.Ho
set_option maxRecDepth 100000 in
set_option maxHeartbeats 3200000 in
/-- THE WALK: a signature that was made is right, and what it shows is what the document says. -/
theorem walk (v0 : Value) (xs0 : List Int) {w : World} (r0 : RowB w v0 xs0) (v1 : Value) (xs1 : List Int) (r1 : RowB w v1 xs1) (hK : KTab w) (hp : 0 < w.heap.size) :
    Calls Tryd.prog 3 #[v0, v1] w fun e w' => e = .returned (.bool true) ∧ Below w.heap.size w w' := by
  have GK : Hid (KTab w ∧ 0 < w.heap.size) := ⟨hK, hp⟩
  have HR : Hid (RowB w v0 xs0 ∧ RowB w v1 xs1) := ⟨r0, r1⟩
  obtain ⟨a0, c0, rfl, _, _⟩ := r0
  obtain ⟨a1, c1', rfl, _, _⟩ := r1
  clear hK hp
  by_cases hb0 : (1048576 : Int) < (xs0.length : Int)
  · go_enter Tryd.func3, Tryd.ntmps3
    go_wp2
    go_ret
    exact ⟨rfl, Below.refl _ _⟩
  by_cases hb1 : (1048576 : Int) < (xs1.length : Int)
  · go_enter Tryd.func3, Tryd.ntmps3
    go_wp2
    go_ret
    exact ⟨rfl, Below.refl _ _⟩
  have HL : Hid (xs0.length ≤ 1048576 ∧ xs1.length ≤ 1048576) := ⟨by omega, by omega⟩
  go_enter Tryd.func3, Tryd.ntmps3
  go_wp2_with fail
  refine (SeedOf_any _ xs0 w HR.out.1 HL.out.1).mono ?_
  rintro e w1 ⟨s, rfl, hs, b1⟩
  have HS : Hid (s.size = 32) := hs
  have B1 : Hid (Below w.heap.size w w1) := b1
  clear hs b1
  go_wp2_with fail
  refine (MsgOf_any _ xs1 w1 (HR.out.2.below B1.out) HL.out.2).mono ?_
  rintro e w2 ⟨msg, rfl, hm, b2⟩
  have HM : Hid (msg.size ≤ 20) := hm
  have B2 : Hid (Below w.heap.size w w2) := B1.out.trans (b2.mono B1.out.size)
  clear hm b2
  go_wp2_with fail
  refine (at_any _ xs1 0 8 w2 (HR.out.2.below B2.out) HL.out.2 (by decide) (by decide) (by decide)).mono ?_
  rintro e w3 ⟨k, rfl, hk, b3⟩
  have B3 : Hid (Below w.heap.size w w3) := B2.out.trans (b3.mono B2.out.size)
  obtain ⟨root, bits, ta, tb, tc, hl, hz, hir, hsr, his, hss, hv, hbi, hat⟩ := lam_good s msg k HS.out HM.out hk
  have HLN : Hid (ta.length = 32 ∧ tb.length = 32 ∧ tc.length = 3 ∧ bits.size = 32) := hl
  have HZ : Hid ((∀ t ∈ ta, t.size ≤ maxLen) ∧ (∀ t ∈ tb, t.size ≤ maxLen) ∧ ∀ t ∈ tc, t.size ≤ maxLen) := hz
  have HLM : Hid (ta.length ≤ maxLen ∧ tb.length ≤ maxLen ∧ tc.length ≤ maxLen) := by show _ ∧ _ ∧ _; rw [hl.1, hl.2.1, hl.2.2.1]; decide
  have HIR : Hid (Said 11 #[.string s] (.tuple #[.string root, .int .i64 0])) := hir
  have HSR : Hid (Said 12 #[.string s] (.tuple #[.string root, .int .i64 0])) := hsr
  have HIS : Hid (∀ W, KTab W → 0 < W.heap.size → Calls Tryd.prog 13 #[.string s, .int .i64 k, .string msg] W fun e w' => ∃ va vb vc, e = .returned (.tuple #[.agg #[.int .i64 k, va, vb, vc], .int .i64 0]) ∧ SigV w' W.heap.size va vb vc ta tb tc ∧ Below W.heap.size W w') := his
  have HSS : Hid (∀ W, Calls Tryd.prog 14 #[.string s, .int .i64 k, .string msg] W fun e w' => ∃ va vb vc, e = .returned (.tuple #[.agg #[.int .i64 k, va, vb, vc], .int .i64 0]) ∧ SigV w' W.heap.size va vb vc ta tb tc ∧ Below W.heap.size W w') := hss
  have HV : Hid (vC root msg (k : Int) ta tb tc = 0) := hv
  have HBI : Hid (Said 17 #[.string msg] (.tuple #[.string bits, .int .i64 0])) := hbi
  have HAT : Hid (∀ j, j < 32 → ∀ hb : j < bits.size, ∃ (b : Nat) (o : ByteArray), (b = 0 ∨ b = 1) ∧ ((bits[j]'hb).toNat : Int) = 48 + (b : Int) ∧ tnth tb j = hashS (bys o) ∧
      Said 18 #[.string s, .int .i64 k, .int .i64 j, .int .i64 b] (.tuple #[.string (tnth ta j), .int .i64 0]) ∧
      Said 18 #[.string s, .int .i64 k, .int .i64 j, .int .i64 ((1 - b : Nat) : Int)] (.tuple #[.string o, .int .i64 0])) := hat
  clear b3 hl hz hir hsr his hss hv hbi hat
  go_wp2_with fail
  refine (HIR.out w3 (GK.out.1.below B3.out GK.out.2) (Nat.lt_of_lt_of_le GK.out.2 B3.out.size)).mono ?_
  rintro e w4 ⟨rfl, b4⟩
  have B4 : Hid (Below w.heap.size w w4) := B3.out.trans (b4.mono B3.out.size)
  clear b4
  go_wp2_with fail
  refine (HSR.out w4 (GK.out.1.below B4.out GK.out.2) (Nat.lt_of_lt_of_le GK.out.2 B4.out.size)).mono ?_
  rintro e w5 ⟨rfl, b5⟩
  have B5 : Hid (Below w.heap.size w w5) := B4.out.trans (b5.mono B4.out.size)
  clear b5
  go_wp2_with fail
  refine (HIS.out w5 (GK.out.1.below B5.out GK.out.2) (Nat.lt_of_lt_of_le GK.out.2 B5.out.size)).mono ?_
  rintro e w6 ⟨ua, ub, uc, rfl, s6, b6⟩
  obtain ⟨b1, o1, c1, e1⟩ := row_form s6.oa.row HLN.out.1 (by decide)
  obtain ⟨b2, o2, c2, e2⟩ := row_form s6.ob.row HLN.out.2.1 (by decide)
  obtain ⟨b3, o3, c3, e3⟩ := row_form s6.oc.row HLN.out.2.2.1 (by decide)
  subst e1 e2 e3
  have HB : Hid (∀ W, Below (w6.heap.size + 1) (w6.alloc (.cells #[.int .i64 (k : Int), .slice (some ⟨b1, o1, none⟩) 32 c1, .slice (some ⟨b2, o2, none⟩) 32 c2, .slice (some ⟨b3, o3, none⟩) 3 c3] 29)) W → W.heap[w6.heap.size]? = some (.cells #[.int .i64 (k : Int), .slice (some ⟨b1, o1, none⟩) 32 c1, .slice (some ⟨b2, o2, none⟩) 32 c2, .slice (some ⟨b3, o3, none⟩) 3 c3] 29 (0, 0)) ∧ Below w.heap.size w W ∧ w6.heap.size + 1 ≤ W.heap.size ∧ RowT W (.slice (some ⟨b1, o1, none⟩) 32 c1) ta ∧ RowT W (.slice (some ⟨b2, o2, none⟩) 32 c2) tb ∧ RowT W (.slice (some ⟨b3, o3, none⟩) 3 c3) tc) := fun W hW => by
    have hs := hW.size
    rw [size_new] at hs
    have g6 := B5.out.trans (b6.mono B5.out.size)
    have h6 : Below w6.heap.size w6 W := (bel_new w6 _).trans (hW.mono (by omega))
    exact ⟨(hW.block _ (by omega)).trans (blk_new _ _ _), g6.trans (h6.mono g6.size), hs, s6.oa.row.below h6, s6.ob.row.below h6, s6.oc.row.below h6⟩
  have D6 : Hid (Below (w6.heap.size + 1) (w6.alloc (.cells #[.int .i64 (k : Int), .slice (some ⟨b1, o1, none⟩) 32 c1, .slice (some ⟨b2, o2, none⟩) 32 c2, .slice (some ⟨b3, o3, none⟩) 3 c3] 29)) (w6.alloc (.cells #[.int .i64 (k : Int), .slice (some ⟨b1, o1, none⟩) 32 c1, .slice (some ⟨b2, o2, none⟩) 32 c2, .slice (some ⟨b3, o3, none⟩) 3 c3] 29))) := Below.refl _ _
  have T6 : Hid ((w6.alloc (.cells #[.int .i64 (k : Int), .slice (some ⟨b1, o1, none⟩) 32 c1, .slice (some ⟨b2, o2, none⟩) 32 c2, .slice (some ⟨b3, o3, none⟩) 3 c3] 29)).heap.size = w6.heap.size + 1) := size_new _ _
  clear s6 b6
  go_wp2_with fail
  refine (HSS.out _).mono ?_
  rintro e w7 ⟨ua, ub, uc, rfl, s7, b7⟩
  rw [T6.out] at b7
  obtain ⟨b4, o4, c4, e1⟩ := row_form s7.oa.row HLN.out.1 (by decide)
  obtain ⟨b5, o5, c5, e2⟩ := row_form s7.ob.row HLN.out.2.1 (by decide)
  obtain ⟨b6, o6, c6, e3⟩ := row_form s7.oc.row HLN.out.2.2.1 (by decide)
  subst e1 e2 e3
  have D7 : Hid (Below (w6.heap.size + 1) (w6.alloc (.cells #[.int .i64 (k : Int), .slice (some ⟨b1, o1, none⟩) 32 c1, .slice (some ⟨b2, o2, none⟩) 32 c2, .slice (some ⟨b3, o3, none⟩) 3 c3] 29)) (w7.alloc (.cells #[.int .i64 (k : Int), .slice (some ⟨b4, o4, none⟩) 32 c4, .slice (some ⟨b5, o5, none⟩) 32 c5, .slice (some ⟨b6, o6, none⟩) 3 c6] 29))) := b7.alloc (by have := b7.size; rw [T6.out] at this; exact this) _
  have R7 : Hid (RowT (w7.alloc (.cells #[.int .i64 (k : Int), .slice (some ⟨b4, o4, none⟩) 32 c4, .slice (some ⟨b5, o5, none⟩) 32 c5, .slice (some ⟨b6, o6, none⟩) 3 c6] 29)) (.slice (some ⟨b4, o4, none⟩) 32 c4) ta ∧ RowT (w7.alloc (.cells #[.int .i64 (k : Int), .slice (some ⟨b4, o4, none⟩) 32 c4, .slice (some ⟨b5, o5, none⟩) 32 c5, .slice (some ⟨b6, o6, none⟩) 3 c6] 29)) (.slice (some ⟨b5, o5, none⟩) 32 c5) tb ∧ RowT (w7.alloc (.cells #[.int .i64 (k : Int), .slice (some ⟨b4, o4, none⟩) 32 c4, .slice (some ⟨b5, o5, none⟩) 32 c5, .slice (some ⟨b6, o6, none⟩) 3 c6] 29)) (.slice (some ⟨b6, o6, none⟩) 3 c6) tc) := ⟨s7.oa.row.below (bel_new _ _), s7.ob.row.below (bel_new _ _), s7.oc.row.below (bel_new _ _)⟩
  clear s7 b7
  have p0 : (w7.alloc (.cells #[.int .i64 (k : Int), .slice (some ⟨b4, o4, none⟩) 32 c4, .slice (some ⟨b5, o5, none⟩) 32 c5, .slice (some ⟨b6, o6, none⟩) 3 c6] 29)).cell? ⟨w6.heap.size, 0, none⟩ = some (.int .i64 (k : Int)) := (blk_cell (HB.out _ D7.out).1 0 rfl).1
  have p1 : (w7.alloc (.cells #[.int .i64 (k : Int), .slice (some ⟨b4, o4, none⟩) 32 c4, .slice (some ⟨b5, o5, none⟩) 32 c5, .slice (some ⟨b6, o6, none⟩) 3 c6] 29)).cell? ⟨w6.heap.size, 1, none⟩ = some (.slice (some ⟨b1, o1, none⟩) 32 c1) := (blk_cell (HB.out _ D7.out).1 1 rfl).1
  have p2 : (w7.alloc (.cells #[.int .i64 (k : Int), .slice (some ⟨b4, o4, none⟩) 32 c4, .slice (some ⟨b5, o5, none⟩) 32 c5, .slice (some ⟨b6, o6, none⟩) 3 c6] 29)).cell? ⟨w6.heap.size, 2, none⟩ = some (.slice (some ⟨b2, o2, none⟩) 32 c2) := (blk_cell (HB.out _ D7.out).1 2 rfl).1
  have p3 : (w7.alloc (.cells #[.int .i64 (k : Int), .slice (some ⟨b4, o4, none⟩) 32 c4, .slice (some ⟨b5, o5, none⟩) 32 c5, .slice (some ⟨b6, o6, none⟩) 3 c6] 29)).cell? ⟨w6.heap.size, 3, none⟩ = some (.slice (some ⟨b3, o3, none⟩) 3 c3) := (blk_cell (HB.out _ D7.out).1 3 rfl).1
  have hrr : (root.toList == root.toList) = true := by simp
  go_wp2_with fail
  obtain ⟨_, _, _, q1, q2, q3⟩ := HB.out _ D7.out
  refine (sameSig_same (k : Int) _ _ _ _ _ _ ta tb tc _ q1 q2 q3 R7.out.1 R7.out.2.1 R7.out.2.2 (by have := HLN.out; omega) (by have := HLN.out; omega) (by have := HLN.out; omega)).mono ?_
  rintro e w8 ⟨rfl, b8⟩
  have D8 : Hid (Below (w6.heap.size + 1) (w6.alloc (.cells #[.int .i64 (k : Int), .slice (some ⟨b1, o1, none⟩) 32 c1, .slice (some ⟨b2, o2, none⟩) 32 c2, .slice (some ⟨b3, o3, none⟩) 3 c3] 29)) w8) := D7.out.trans (b8.mono (HB.out _ D7.out).2.2.1)
  clear b8 q1 q2 q3 p0 p1 p2 p3
  have x0 := (blk_cell (HB.out _ D8.out).1 0 (x := .int .i64 (k : Int)) rfl).1
  have x1 := (blk_cell (HB.out _ D8.out).1 1 (x := .slice (some ⟨b1, o1, none⟩) 32 c1) rfl).1
  have x2 := (blk_cell (HB.out _ D8.out).1 2 (x := .slice (some ⟨b2, o2, none⟩) 32 c2) rfl).1
  have x3 := (blk_cell (HB.out _ D8.out).1 3 (x := .slice (some ⟨b3, o3, none⟩) 3 c3) rfl).1
  go_wp2_with fail
  obtain ⟨_, _, _, q1, q2, q3⟩ := HB.out _ D8.out
  refine (implCheckSignature_any root msg (k : Int) _ _ _ ta tb tc w8 q1 q2 q3 HLM.out.1 HLM.out.2.1 HLM.out.2.2 HZ.out.1 HZ.out.2.1 HZ.out.2.2 (GK.out.1.below (HB.out w8 D8.out).2.1 GK.out.2) (Nat.lt_of_lt_of_le GK.out.2 (HB.out w8 D8.out).2.1.size)).mono ?_
  rintro e w9 ⟨rfl, b9⟩
  rw [HV.out]
  have D9 : Hid (Below (w6.heap.size + 1) (w6.alloc (.cells #[.int .i64 (k : Int), .slice (some ⟨b1, o1, none⟩) 32 c1, .slice (some ⟨b2, o2, none⟩) 32 c2, .slice (some ⟨b3, o3, none⟩) 3 c3] 29)) w9) := D8.out.trans (b9.mono (HB.out _ D8.out).2.2.1)
  clear b9 q1 q2 q3 x0 x1 x2 x3
  go_wp2_with fail
  refine (HBI.out w9 (GK.out.1.below (HB.out w9 D9.out).2.1 GK.out.2) (Nat.lt_of_lt_of_le GK.out.2 (HB.out w9 D9.out).2.1.size)).mono ?_
  rintro e w10 ⟨rfl, b10⟩
  have D10 : Hid (Below (w6.heap.size + 1) (w6.alloc (.cells #[.int .i64 (k : Int), .slice (some ⟨b1, o1, none⟩) 32 c1, .slice (some ⟨b2, o2, none⟩) 32 c2, .slice (some ⟨b3, o3, none⟩) 3 c3] 29)) w10) := D9.out.trans (b10.mono (HB.out _ D9.out).2.2.1)
  clear b10
  go_wp2_with fail
  refine (at_any _ xs1 1 32 w10 (HR.out.2.below (HB.out _ D10.out).2.1) HL.out.2 (by decide) (by decide) (by decide)).mono ?_
  rintro e w11 ⟨i, rfl, hi, b11⟩
  have D11 : Hid (Below (w6.heap.size + 1) (w6.alloc (.cells #[.int .i64 (k : Int), .slice (some ⟨b1, o1, none⟩) 32 c1, .slice (some ⟨b2, o2, none⟩) 32 c2, .slice (some ⟨b3, o3, none⟩) 3 c3] 29)) w11) := D10.out.trans (b11.mono (HB.out _ D10.out).2.2.1)
  clear b11
  have hb1' : i < bits.size := by rw [HLN.out.2.2.2]; exact hi
  have hb2' : (i : Int) < (bits.size : Int) := by omega
  have hbz : ((bits.size : Int) != 32) = false := by rw [HLN.out.2.2.2]; rfl
  have hi0 : (0 : Int) ≤ (i : Int) := by omega
  obtain ⟨b, o, h01, h48, hto, hs1, hs2⟩ := HAT.out i hi hb1'
  have H01 : Hid ((b = 0 ∨ b = 1) ∧ ((bits[i]'hb1').toNat : Int) = 48 + (b : Int)) := ⟨h01, h48⟩
  have HTO : Hid (tnth tb i = hashS (bys o)) := hto
  have HS1 : Hid (Said 18 #[.string s, .int .i64 k, .int .i64 i, .int .i64 b] (.tuple #[.string (tnth ta i), .int .i64 0])) := hs1
  have HS2 : Hid (Said 18 #[.string s, .int .i64 k, .int .i64 i, .int .i64 ((1 - b : Nat) : Int)] (.tuple #[.string o, .int .i64 0])) := hs2
  clear h01 h48 hto hs1 hs2
  go_wp2_with fail
  have HA1 : Hid ((((bits[i]'hb1').toNat : Int) - 48) % 256 = (b : Int) ∧ (1 : Int) - (b : Int) = ((1 - b : Nat) : Int)) := by
    obtain ⟨h, e⟩ := H01.out
    rcases h with rfl | rfl <;> exact ⟨by rw [e]; decide, by decide⟩
  rw [HA1.out.1]
  refine (HS1.out w11 (GK.out.1.below (HB.out w11 D11.out).2.1 GK.out.2) (Nat.lt_of_lt_of_le GK.out.2 (HB.out w11 D11.out).2.1.size)).mono ?_
  rintro e w12 ⟨rfl, b12⟩
  have D12 : Hid (Below (w6.heap.size + 1) (w6.alloc (.cells #[.int .i64 (k : Int), .slice (some ⟨b1, o1, none⟩) 32 c1, .slice (some ⟨b2, o2, none⟩) 32 c2, .slice (some ⟨b3, o3, none⟩) 3 c3] 29)) w12) := D11.out.trans (b12.mono (HB.out _ D11.out).2.2.1)
  clear b12
  have hn0 : 0 ≤ (((bits[i]'hb1').toNat : Int) - 48) % 256 := by rw [HA1.out.1]; omega
  have hn1 : (((bits[i]'hb1').toNat : Int) - 48) % 256 ≤ 1 := by rw [HA1.out.1]; have := H01.out.1; omega
  go_wp2_with fail
  clear hn0 hn1
  rw [HA1.out.1, HA1.out.2]
  refine (HS2.out w12 (GK.out.1.below (HB.out w12 D12.out).2.1 GK.out.2) (Nat.lt_of_lt_of_le GK.out.2 (HB.out w12 D12.out).2.1.size)).mono ?_
  rintro e w13 ⟨rfl, b13⟩
  have D13 : Hid (Below (w6.heap.size + 1) (w6.alloc (.cells #[.int .i64 (k : Int), .slice (some ⟨b1, o1, none⟩) 32 c1, .slice (some ⟨b2, o2, none⟩) 32 c2, .slice (some ⟨b3, o3, none⟩) 3 c3] 29)) w13) := D12.out.trans (b13.mono (HB.out _ D12.out).2.2.1)
  clear b13
  have HF0 : ∀ W, Below (w6.heap.size + 1) (w6.alloc (.cells #[.int .i64 (k : Int), .slice (some ⟨b1, o1, none⟩) 32 c1, .slice (some ⟨b2, o2, none⟩) 32 c2, .slice (some ⟨b3, o3, none⟩) 3 c3] 29)) W → W.cell? ⟨w6.heap.size, 1, none⟩ = some (.slice (some ⟨b1, o1, none⟩) 32 c1) ∧ W.cell? ⟨w6.heap.size, 2, none⟩ = some (.slice (some ⟨b2, o2, none⟩) 32 c2) ∧ W.cell? ⟨b1, o1 + i, none⟩ = some (.string (tnth ta i)) ∧ W.cell? ⟨b2, o2 + i, none⟩ = some (.string (tnth tb i)) := fun W hW => by
    obtain ⟨q0, _, _, q1, q2, _⟩ := HB.out W hW
    exact ⟨(blk_cell q0 1 rfl).1, (blk_cell q0 2 rfl).1, row_at q1 (by rw [HLN.out.1]; exact hi), row_at q2 (by rw [HLN.out.2.1]; exact hi)⟩
  rw [HTO.out] at HF0
  generalize tnth ta i = t1 at HF0 ⊢
  obtain ⟨t2, HT2⟩ : ∃ t2, Hid (hashS (bys o) = t2) := ⟨_, rfl⟩
  rw [HT2.out] at HF0
  have HF : Hid (∀ W, Below (w6.heap.size + 1) (w6.alloc (.cells #[.int .i64 (k : Int), .slice (some ⟨b1, o1, none⟩) 32 c1, .slice (some ⟨b2, o2, none⟩) 32 c2, .slice (some ⟨b3, o3, none⟩) 3 c3] 29)) W → W.cell? ⟨w6.heap.size, 1, none⟩ = some (.slice (some ⟨b1, o1, none⟩) 32 c1) ∧ W.cell? ⟨w6.heap.size, 2, none⟩ = some (.slice (some ⟨b2, o2, none⟩) 32 c2) ∧ W.cell? ⟨b1, o1 + i, none⟩ = some (.string t1) ∧ W.cell? ⟨b2, o2 + i, none⟩ = some (.string t2)) := HF0
  clear HF0
  have ht1 : (t1.toList == t1.toList) = true := by simp
  have ht2 : (t2.toList == t2.toList) = true := by simp
  have hi32 : (i : Int) < 32 := by omega
  obtain ⟨v14, w14, hcv, r14, b14⟩ := bytes_run o w13.drew
  have D13' : Hid (Below (w6.heap.size + 1) (w6.alloc (.cells #[.int .i64 (k : Int), .slice (some ⟨b1, o1, none⟩) 32 c1, .slice (some ⟨b2, o2, none⟩) 32 c2, .slice (some ⟨b3, o3, none⟩) 3 c3] 29)) w13.drew) := D13.out.drew
  have D14 : Hid (Below (w6.heap.size + 1) (w6.alloc (.cells #[.int .i64 (k : Int), .slice (some ⟨b1, o1, none⟩) 32 c1, .slice (some ⟨b2, o2, none⟩) 32 c2, .slice (some ⟨b3, o3, none⟩) 3 c3] 29)) w14) := D13'.out.trans (b14.mono (HB.out _ D13'.out).2.2.1)
  have R14 : Hid (RowB w14 v14 (bys o)) := r14
  obtain ⟨x1, x2, x3, x4⟩ := HF.out _ D13'.out
  obtain ⟨y1, y2, y3, y4⟩ := HF.out _ D14.out
  clear r14 b14
  go_upto_region 18 with fail
  go_cut [150] (fun c wx => c = .bool false ∧ Below (w6.heap.size + 1) (w6.alloc (.cells #[.int .i64 (k : Int), .slice (some ⟨b1, o1, none⟩) 32 c1, .slice (some ⟨b2, o2, none⟩) 32 c2, .slice (some ⟨b3, o3, none⟩) 3 c3] 29)) wx)
  case first =>
    refine wp_region_noPanic ?_
    go_region_held (fun w' => w'.cell? ⟨w6.heap.size, 1, none⟩ = some (.slice (some ⟨b1, o1, none⟩) 32 c1) ∧ w'.cell? ⟨w6.heap.size, 2, none⟩ = some (.slice (some ⟨b2, o2, none⟩) 32 c2) ∧ w'.cell? ⟨b1, o1 + i, none⟩ = some (.string t1) ∧ w'.cell? ⟨b2, o2 + i, none⟩ = some (.string t2)) (first | exact ⟨x1, x2, x3, x4⟩ | (refine ⟨?_, ?_, ?_, ?_⟩ <;> assumption) | go_keep)
      (first | (go_at_call 19; refine (implHash_any v14 _ w14 R14.out (GK.out.1.below (HB.out w14 D14.out).2.1 GK.out.2) (Nat.lt_of_lt_of_le GK.out.2 (HB.out w14 D14.out).2.1.size)).mono ?_; rintro e w15 ⟨rfl, b15⟩; rw [HT2.out]; have D15 : Below (w6.heap.size + 1) (w6.alloc (.cells #[.int .i64 (k : Int), .slice (some ⟨b1, o1, none⟩) 32 c1, .slice (some ⟨b2, o2, none⟩) 32 c2, .slice (some ⟨b3, o3, none⟩) 3 c3] 29)) w15 := D14.out.trans (b15.mono (HB.out _ D14.out).2.2.1); obtain ⟨z1, z2, z3, z4⟩ := HF.out _ D15; clear b15))
    all_goals (refine NoPanic.normal ?_)
    all_goals
      go_wp2_with fail
      go_meet
      exact ⟨rfl, D15⟩
  case rest =>
  obtain ⟨rfl, d15⟩ := hcut
  have D15 : Hid (Below (w6.heap.size + 1) (w6.alloc (.cells #[.int .i64 (k : Int), .slice (some ⟨b1, o1, none⟩) 32 c1, .slice (some ⟨b2, o2, none⟩) 32 c2, .slice (some ⟨b3, o3, none⟩) 3 c3] 29)) wc) := d15
  have D15' : Hid (Below (w6.heap.size + 1) (w6.alloc (.cells #[.int .i64 (k : Int), .slice (some ⟨b1, o1, none⟩) 32 c1, .slice (some ⟨b2, o2, none⟩) 32 c2, .slice (some ⟨b3, o3, none⟩) 3 c3] 29)) wc.drew) := d15.drew
  clear d15 x1 x2 x3 x4 y1 y2 y3 y4 hcv ht1 ht2 hi32
  clear HF R14 D14 HT2 HTO HS1 HS2 HAT H01 HA1 hb1' hb2' hbz hi0
  have hmA : ¬ 9223372036854775807 < msg.size + 1 := by have := HM.out; omega
  obtain ⟨f, HCD⟩ : ∃ f : ByteArray → Int → Int, Hid (∀ m j, vC root m j ta tb tc = f m j) := ⟨fun m j => vC root m j ta tb tc, fun _ _ => rfl⟩
  have hff : ∀ m j, (f m j != f m j) = false := fun m j => by simp
  have hfe : ∀ m j, (f m j == f m j) = true := fun m j => by simp
  have x0 := (blk_cell (HB.out _ D15'.out).1 0 (x := .int .i64 (k : Int)) rfl).1
  have x1 := (blk_cell (HB.out _ D15'.out).1 1 (x := .slice (some ⟨b1, o1, none⟩) 32 c1) rfl).1
  have x2 := (blk_cell (HB.out _ D15'.out).1 2 (x := .slice (some ⟨b2, o2, none⟩) 32 c2) rfl).1
  have x3 := (blk_cell (HB.out _ D15'.out).1 3 (x := .slice (some ⟨b3, o3, none⟩) 3 c3) rfl).1
  obtain ⟨_, _, _, q1, q2, q3⟩ := HB.out _ D15'.out
  go_upto_region 20 with fail
  go_cut [161] (fun c wx => c = .bool false ∧ Below (w6.heap.size + 1) (w6.alloc (.cells #[.int .i64 (k : Int), .slice (some ⟨b1, o1, none⟩) 32 c1, .slice (some ⟨b2, o2, none⟩) 32 c2, .slice (some ⟨b3, o3, none⟩) 3 c3] 29)) wx)
  case first =>
    go_region_law (first
      | (go_simp; go_at_call 16; refine (implCheckSignature_any root _ (k : Int) _ _ _ ta tb tc wc.drew q1 q2 q3 HLM.out.1 HLM.out.2.1 HLM.out.2.2 HZ.out.1 HZ.out.2.1 HZ.out.2.2 (GK.out.1.below (HB.out wc.drew D15'.out).2.1 GK.out.2) (Nat.lt_of_lt_of_le GK.out.2 (HB.out wc.drew D15'.out).2.1.size)).mono ?_; rintro e w16 ⟨rfl, b16⟩; rw [HCD.out]; have D16 : Below (w6.heap.size + 1) (w6.alloc (.cells #[.int .i64 (k : Int), .slice (some ⟨b1, o1, none⟩) 32 c1, .slice (some ⟨b2, o2, none⟩) 32 c2, .slice (some ⟨b3, o3, none⟩) 3 c3] 29)) w16 := D15'.out.trans (b16.mono (HB.out _ D15'.out).2.2.1); have n0 := (blk_cell (HB.out _ D16).1 0 (x := .int .i64 (k : Int)) rfl).1; have n1 := (blk_cell (HB.out _ D16).1 1 (x := .slice (some ⟨b1, o1, none⟩) 32 c1) rfl).1; have n2 := (blk_cell (HB.out _ D16).1 2 (x := .slice (some ⟨b2, o2, none⟩) 32 c2) rfl).1; have n3 := (blk_cell (HB.out _ D16).1 3 (x := .slice (some ⟨b3, o3, none⟩) 3 c3) rfl).1; obtain ⟨_, _, _, q1', q2', q3'⟩ := HB.out _ D16; clear b16; try go_simp)
      | (go_simp; go_at_call 20; refine (specCheckSignature_any root _ (k : Int) _ _ _ ta tb tc w16 q1' q2' q3' HLM.out.1 HLM.out.2.1 HLM.out.2.2 HZ.out.1 HZ.out.2.1 HZ.out.2.2).mono ?_; rintro e w17 ⟨rfl, b17⟩; rw [HCD.out]; have D17 : Below (w6.heap.size + 1) (w6.alloc (.cells #[.int .i64 (k : Int), .slice (some ⟨b1, o1, none⟩) 32 c1, .slice (some ⟨b2, o2, none⟩) 32 c2, .slice (some ⟨b3, o3, none⟩) 3 c3] 29)) w17 := D16.trans (b17.mono (HB.out _ D16).2.2.1); clear b17; try go_simp))
    all_goals
      go_wp2_with fail
      go_meet
      exact ⟨rfl, D17⟩
  case rest =>
  obtain ⟨rfl, d17⟩ := hcut
  have D17 : Hid (Below (w6.heap.size + 1) (w6.alloc (.cells #[.int .i64 (k : Int), .slice (some ⟨b1, o1, none⟩) 32 c1, .slice (some ⟨b2, o2, none⟩) 32 c2, .slice (some ⟨b3, o3, none⟩) 3 c3] 29)) wc) := d17
  have D17' : Hid (Below (w6.heap.size + 1) (w6.alloc (.cells #[.int .i64 (k : Int), .slice (some ⟨b1, o1, none⟩) 32 c1, .slice (some ⟨b2, o2, none⟩) 32 c2, .slice (some ⟨b3, o3, none⟩) 3 c3] 29)) (wc.alloc (.cells #[.int .i64 (k : Int), .slice (some ⟨b1, o1, none⟩) 32 c1, .slice (some ⟨b2, o2, none⟩) 32 c2, .slice (some ⟨b3, o3, none⟩) 3 c3] 29))) := d17.alloc (HB.out _ d17).2.2.1 _
  have A17 : Hid ((wc.alloc (.cells #[.int .i64 (k : Int), .slice (some ⟨b1, o1, none⟩) 32 c1, .slice (some ⟨b2, o2, none⟩) 32 c2, .slice (some ⟨b3, o3, none⟩) 3 c3] 29)).heap[wc.heap.size]? = some (.cells #[.int .i64 (k : Int), .slice (some ⟨b1, o1, none⟩) 32 c1, .slice (some ⟨b2, o2, none⟩) 32 c2, .slice (some ⟨b3, o3, none⟩) 3 c3] 29 (0, 0)) ∧ w6.heap.size + 1 ≤ wc.heap.size ∧ wc.heap.size < (wc.alloc (.cells #[.int .i64 (k : Int), .slice (some ⟨b1, o1, none⟩) 32 c1, .slice (some ⟨b2, o2, none⟩) 32 c2, .slice (some ⟨b3, o3, none⟩) 3 c3] 29)).heap.size) := ⟨blk_new _ _ _, (HB.out _ d17).2.2.1, by rw [size_new]; omega⟩
  clear d17 q1 q2 q3 x0 x1 x2 x3
  have x0 := (blk_cell (HB.out _ D17.out).1 0 (x := .int .i64 (k : Int)) rfl).1
  have x1 := (blk_cell (HB.out _ D17.out).1 1 (x := .slice (some ⟨b1, o1, none⟩) 32 c1) rfl).1
  have x2 := (blk_cell (HB.out _ D17.out).1 2 (x := .slice (some ⟨b2, o2, none⟩) 32 c2) rfl).1
  have x3 := (blk_cell (HB.out _ D17.out).1 3 (x := .slice (some ⟨b3, o3, none⟩) 3 c3) rfl).1
  go_wp2_with fail
  refine (at_any _ xs1 2 8 _ (HR.out.2.below (HB.out _ D17'.out).2.1) HL.out.2 (by decide) (by decide) (by decide)).mono ?_
  rintro e w18 ⟨j, rfl, _, b18⟩
  have D18 : Hid (Below (w6.heap.size + 1) (w6.alloc (.cells #[.int .i64 (k : Int), .slice (some ⟨b1, o1, none⟩) 32 c1, .slice (some ⟨b2, o2, none⟩) 32 c2, .slice (some ⟨b3, o3, none⟩) 3 c3] 29)) w18 ∧ w18.heap[wc.heap.size]? = some (.cells #[.int .i64 (k : Int), .slice (some ⟨b1, o1, none⟩) 32 c1, .slice (some ⟨b2, o2, none⟩) 32 c2, .slice (some ⟨b3, o3, none⟩) 3 c3] 29 (0, 0))) := ⟨D17'.out.trans (b18.mono (HB.out _ D17'.out).2.2.1), (b18.block _ A17.out.2.2).trans A17.out.1⟩
  have A18 : Hid (w6.heap.size + 1 ≤ wc.heap.size) := A17.out.2.1
  clear b18 x0 x1 x2 x3 A17 D17'
  generalize wc.heap.size = p at D18 A18 ⊢
  obtain ⟨z0, zf0⟩ := blk_cell D18.out.2 0 (x := .int .i64 (k : Int)) rfl
  have AF : Hid (Below (w6.heap.size + 1) (w6.alloc (.cells #[.int .i64 (k : Int), .slice (some ⟨b1, o1, none⟩) 32 c1, .slice (some ⟨b2, o2, none⟩) 32 c2, .slice (some ⟨b3, o3, none⟩) 3 c3] 29)) (w18.setCell ⟨p, 0, none⟩ (.int .i64 (j : Int))) ∧ (w18.setCell ⟨p, 0, none⟩ (.int .i64 (j : Int))).heap[p]? = some (.cells #[.int .i64 (j : Int), .slice (some ⟨b1, o1, none⟩) 32 c1, .slice (some ⟨b2, o2, none⟩) 32 c2, .slice (some ⟨b3, o3, none⟩) 3 c3] 29 (0, 0))) := ⟨Below.setCell D18.out.1 (p := ⟨p, 0, none⟩) A18.out (.int .i64 (j : Int)), blk_set D18.out.2 0 (.int .i64 (j : Int))⟩
  go_upto_region 24 with fail
  clear z0 zf0
  generalize w18.setCell ⟨p, 0, none⟩ (.int .i64 (j : Int)) = ws at AF ⊢
  have P0 : Hid (p < ws.heap.size) := (Array.getElem?_eq_some_iff.1 AF.out.2).1
  have E0 : Hid (Below (w6.heap.size + 1) (w6.alloc (.cells #[.int .i64 (k : Int), .slice (some ⟨b1, o1, none⟩) 32 c1, .slice (some ⟨b2, o2, none⟩) 32 c2, .slice (some ⟨b3, o3, none⟩) 3 c3] 29)) ws.drew) := AF.out.1.drew
  have x0 := (blk_cell (show ws.drew.heap[p]? = _ from AF.out.2) 0 (x := .int .i64 (j : Int)) rfl).1
  have x1 := (blk_cell (show ws.drew.heap[p]? = _ from AF.out.2) 1 (x := .slice (some ⟨b1, o1, none⟩) 32 c1) rfl).1
  have x2 := (blk_cell (show ws.drew.heap[p]? = _ from AF.out.2) 2 (x := .slice (some ⟨b2, o2, none⟩) 32 c2) rfl).1
  have x3 := (blk_cell (show ws.drew.heap[p]? = _ from AF.out.2) 3 (x := .slice (some ⟨b3, o3, none⟩) 3 c3) rfl).1
  obtain ⟨_, _, _, q1, q2, q3⟩ := HB.out _ E0.out
  go_region_law (first
    | (go_simp; go_at_call 16; refine (implCheckSignature_any root _ (j : Int) _ _ _ ta tb tc ws.drew q1 q2 q3 HLM.out.1 HLM.out.2.1 HLM.out.2.2 HZ.out.1 HZ.out.2.1 HZ.out.2.2 (GK.out.1.below (HB.out ws.drew E0.out).2.1 GK.out.2) (Nat.lt_of_lt_of_le GK.out.2 (HB.out ws.drew E0.out).2.1.size)).mono ?_; rintro e w19 ⟨rfl, b19⟩; rw [HCD.out]; have b19' := (ordB rfl b19).1; have D19 : Below (w6.heap.size + 1) (w6.alloc (.cells #[.int .i64 (k : Int), .slice (some ⟨b1, o1, none⟩) 32 c1, .slice (some ⟨b2, o2, none⟩) 32 c2, .slice (some ⟨b3, o3, none⟩) 3 c3] 29)) w19 := E0.out.trans (b19.mono (HB.out _ E0.out).2.2.1); have n0 := (blk_cell ((b19'.block _ P0.out).trans AF.out.2) 0 (x := .int .i64 (j : Int)) rfl).1; have n1 := (blk_cell ((b19'.block _ P0.out).trans AF.out.2) 1 (x := .slice (some ⟨b1, o1, none⟩) 32 c1) rfl).1; have n2 := (blk_cell ((b19'.block _ P0.out).trans AF.out.2) 2 (x := .slice (some ⟨b2, o2, none⟩) 32 c2) rfl).1; have n3 := (blk_cell ((b19'.block _ P0.out).trans AF.out.2) 3 (x := .slice (some ⟨b3, o3, none⟩) 3 c3) rfl).1; obtain ⟨_, _, _, q1', q2', q3'⟩ := HB.out _ D19; clear b19 b19'; try go_simp)
    | (go_simp; go_at_call 20; refine (specCheckSignature_any root _ (j : Int) _ _ _ ta tb tc w19 q1' q2' q3' HLM.out.1 HLM.out.2.1 HLM.out.2.2 HZ.out.1 HZ.out.2.1 HZ.out.2.2).mono ?_; rintro e w20 ⟨rfl, b20⟩; rw [HCD.out]; have D20 : Below (w6.heap.size + 1) (w6.alloc (.cells #[.int .i64 (k : Int), .slice (some ⟨b1, o1, none⟩) 32 c1, .slice (some ⟨b2, o2, none⟩) 32 c2, .slice (some ⟨b3, o3, none⟩) 3 c3] 29)) w20 := D19.trans (b20.mono (HB.out _ D19).2.2.1); have g20 := (HB.out _ D20).2.1; clear b20; try go_simp))
  all_goals
    go_wp2_with fail
    go_ret
    exact ⟨rfl, g20⟩

set_option maxRecDepth 100000 in
theorem lifted (os : Os) (started : os.Started) (H : Type) (enc : TypeId × Value → H) :
    ReturnsInHanded {} Tryd.checked os 3 .any (fun w args => (Rows.fnLamportSpec.pre enc Tryd.prog Tryd.f3 [] false w args ∧ laidMetH Tryd.prog Rows.fnLamportRow.laid w) ∧ sizedMet enc Tryd.prog Tryd.f3 (OpenSpec.ofChange Rows.fnLamportSpec) false w args)
      (Rows.fnLamportSpec.post enc Tryd.prog Tryd.f3 false true false false) := by
  refine returnsInHanded_of_change_and (C := Tryd.checked) (X := fun w _ => laidMetH Tryd.prog Rows.fnLamportRow.laid w) (fun _ _ _ hh h => h.of_heap hh) own started (by kernel_rfl) Tryd.func3
    (ChangeSpec.witness_shaped (enc := enc) (C := Tryd.checked) (os := os) (X := fun w _ => laidMetH Tryd.prog Rows.fnLamportRow.laid w) false (World.doorLaid Tryd.prog 400 os) #[.slice none 0 0, .slice none 0 0] 8 rfl (World.shaped_of_RefB (by kernel_rfl) (by kernel_rfl)) (by kernel_rfl) (by kernel_rfl) (by kernel_rfl) (door_met os _)) ?_
  intro W base args ds gs before hval0 hW _ _ hL _
  have hval : ∀ (j : Nat) t v, Tryd.f3.params[j]? = some t → args[j]? = some v → Value.okWide Tryd.prog W .any base t v := hval0
  have hW' := hW
  obtain ⟨p, q, hA0, hV0, rfl, hfz, hnd⟩ := hW
  have hA : DataW.TrodAll enc Tryd.prog W 0 (fun _ => true) true Tryd.f3.params.toList args.toList ds p := hA0
  have hV : DataW.TrodVars enc Tryd.prog W (fun _ => true) ["loop.example/g00292/impl.roundWords"] gs q := hV0
  rw [Tryd.params3] at hA hval
  obtain ⟨v0, vs0, d0, ds0, p0, q0, hargs, rfl, rfl, h0, r0⟩ := trodAll_cons hA
  obtain ⟨v1, vs1, d1, ds1, p1, q1, rfl, rfl, rfl, h1, r1⟩ := trodAll_cons r0
  obtain ⟨rfl, rfl, rfl⟩ := trodAll_nil r1
  obtain rfl : args = #[v0, v1] := by cases args; simp_all
  obtain ⟨_, _, _, _, dv, _, rfl, _⟩ := trodVars_one hV
  have k00 := h0
  have lt0 : ∀ x ∈ p0, x.block < W.heap.size := by obtain ⟨m, hm⟩ := k00; exact DataW.trod_lt m _ _ _ hm
  obtain ⟨xs0, w0⟩ := Op.open_bytes (hval 0 22 v0 rfl rfl) h0 (fun _ => rfl)
  have k10 := h1
  have lt1 : ∀ x ∈ p1, x.block < W.heap.size := by obtain ⟨m, hm⟩ := k10; exact DataW.trod_lt m _ _ _ hm
  obtain ⟨xs1, w1⟩ := Op.open_bytes (hval 1 22 v1 rfl rfl) h1 (fun _ => rfl)
  clear hA0 hval0 hV0
  have hT := Hl.tab_of hL
  refine (walk v0 xs0 w0 v1 xs1 w1 hT.1 hT.2).mono fun e W' ⟨he, bel⟩ => ?_
  subst he
  exact ⟨_, rfl, _, _, _, [], _, q, hW', trodAll_mk1 (shut_bool Tryd.underlying4 _), (trodAll_cons_mk (Below.trod laidOut (by kernel_rfl) (of_decide_eq_true (by kernel_rfl)) k00 bel lt0) (trodAll_cons_mk (Below.trod laidOut (by kernel_rfl) (of_decide_eq_true (by kernel_rfl)) k10 bel lt1) trodAll_mk0)), Below.trodVars laidOut bel rowed hV, bel.frame _, fun h => by cases h⟩

theorem said : Rows.FnLamportSaid :=
  OpenClaim.holds_of_wide 3 Tryd.f3 rfl rfl rfl rfl rfl rfl rfl ⟨rfl, rfl, rfl, rfl, rfl⟩ rfl rfl rfl rfl rfl (by kernel_rfl) Tryd.func3 (by kernel_rfl)
    (of_decide_eq_true (by kernel_rfl)) (by unfold Func.isWrapper; first | (rw [if_pos (by decide +kernel)]; kernel_rfl) | (rw [if_neg (by decide +kernel)]; exact ⟨rfl, rfl⟩))
    (fun os started H enc _ => lifted os started H enc)

/-- No parameter wants a stand-in; the program's own looks are off. -/
theorem plain (f : FuncId) (fn : Func) (hf : Tryd.pinned.checked.prog.funcNamed "loop.example/g00292/laws.FnLamport" = some f) (hfn : Tryd.pinned.checked.prog.funcs[f]? = some fn) :
    false = Tryd.pinned.checked.prog.looks [] ∧ ∀ (j : Nat) t, fn.params[j]? = some t → Tryd.pinned.checked.prog.wantsStandIn t = false := by
  obtain rfl : f = 3 := Option.some.inj ((show Tryd.prog.funcNamed "loop.example/g00292/laws.FnLamport" = some 3 by kernel_rfl).symm.trans hf) |>.symm
  obtain rfl : fn = Tryd.f3 := (Option.some.inj (Tryd.func3.symm.trans hfn)).symm
  refine ⟨by kernel_rfl, fun j t ht => ?_⟩
  rw [Tryd.params3] at ht
  have hm := Array.mem_of_getElem? ht
  have hl : t ∈ [22, 22] := by simpa using hm
  have hall : ∀ x ∈ [22, 22], Tryd.prog.wantsStandIn x = false := by
    intro x hx
    simp only [List.mem_cons, List.not_mem_nil, or_false] at hx
    rcases hx with rfl | rfl <;> kernel_rfl
  exact hall t hl
end Go.Proofs.YtgakmjonfecnhaaDoor.fnLamport
namespace Go.Proofs.YtgakmjonfecnhaaDoor
/-- THE STATEMENT: the card. -/
theorem fnLamport_holds : Rows.FnLamportCardSaid :=
  Claim7.holds_tied_plain_at .later [] _ _ _ _ fnLamport.said (fun _ h => by cases h) (by kernel_rfl) (fun _ h => by cases h) fnLamport_row_tie rfl ⟨rfl, rfl⟩ (by kernel_rfl) rfl fnLamport.plain (by kernel_rfl)
end Go.Proofs.YtgakmjonfecnhaaDoor
