/-
  Any two quorums have f + 1 nodes in common, and the correct nodes are a quorum, at every two codes.
  Conditions: none beyond the given row's own.
-/
import Derived.Test.YtpljjchjdejcfaaQm
import Derived.Test.YtpljjchjdejcfaaLa
import Derived.Test.YtpljjchjdejcfaaHi
import Derived.Test.YtpljjchjdejcfaaAi
import Derived.Test.YtpljjchjdejcfaaQf
import Derived.Test.YtpljjchjdejcfaaOpc
import Derived.WalkKit
import Derived.ProofKit
import Derived.OpenShut
import Derived.ShutString
import Derived.ChangeOld
import Derived.Below
namespace Go.Proofs.Ytpljjchjdejcfaa.fnQuorums
open Go.ChangeShapes Go.WideShapes Go.ChangeAt Go.RowKit
open Go.ChangeMaps (open_string shut_string)

theorem own : ownKnob Try.prog.godebug = none := by kernel_rfl
theorem laidOut : laidOutB Try.prog = true := by kernel_rfl

open Go.Proofs.Ytpljjchjdejcfaa.Tm Go.Proofs.Ytpljjchjdejcfaa.Qm Go.Proofs.Ytpljjchjdejcfaa.Sl Go.Proofs.Ytpljjchjdejcfaa.La Go.Proofs.Ytpljjchjdejcfaa.Is Go.Proofs.Ytpljjchjdejcfaa.So Go.Proofs.Ytpljjchjdejcfaa.Hi Go.Proofs.Ytpljjchjdejcfaa.Qf
/-- All that the law's end holds. -/
theorem fin {n q f : Nat} {a b : List Int} (h : (n = 1 ∧ q = 1 ∧ f = 0) ∨ (n = 4 ∧ q = 3 ∧ f = 1) ∨ (n = 7 ∧ q = 5 ∧ f = 2)) (ha : Ch n q a) (hb : Ch n q b) (la : q ≤ a.length) (lb : q ≤ b.length) : f + 1 ≤ both a b q := by
  have e1 : a.length = q := by have := ha.2.2; omega
  have e2 : b.length = q := by have := hb.2.2; omega
  have := common ha.1 hb.1 ha.2.1 hb.2.1
  rw [e1, e2] at this
  omega
set_option maxRecDepth 100000 in
set_option maxHeartbeats 1600000 in
/-- The law from where the number of nodes is known. -/
theorem walk {w : World} (v0 : Value) (xs : List Int) (h0 : RowB w v0 xs) (v1 : Value) (ys : List Int) (h1 : RowB w v1 ys) :
    Calls Try.prog 5 #[v0, v1] w fun e w' => e = .returned (.bool true) ∧ Below w.heap.size w w' := by
  have G0 : Hid (RowB w v0 xs) := h0
  have G1 : Hid (RowB w v1 ys) := h1
  obtain ⟨a, cap, rfl, _⟩ := h0
  obtain ⟨c, dap, rfl, _⟩ := h1
  by_cases hb0 : (1048576 : Int) < (xs.length : Int)
  · go_enter Try.func5, Try.ntmps5
    go_wp2
    go_ret
    exact ⟨rfl, Below.refl _ _⟩
  by_cases hb1 : (1048576 : Int) < (ys.length : Int)
  · go_enter Try.func5, Try.ntmps5
    go_wp2
    go_ret
    exact ⟨rfl, Below.refl _ _⟩
  have HX : Hid (xs.length ≤ 1048576) := by show _ ≤ _; omega
  have HY : Hid (ys.length ≤ 1048576) := by show _ ≤ _; omega
  obtain ⟨i0, hi0, hz0, hz1, hz2⟩ := info_parts info3
  have HB0 : Hid (Below w.heap.size w (w.alloc (.cells #[.int .i64 1, .int .i64 4, .int .i64 7] 3))) := bel_new _ _
  go_enter Try.func5, Try.ntmps5
  go_wp2_with fail
  clear hb0 hb1
  refine (atN_any _ ys 0 3 _ (G1.out.below HB0.out) HY.out (by omega) (by decide) (by decide)).mono ?_
  rintro e w1 ⟨rfl, b1⟩
  have k0 := b1.block w.heap.size (by simp)
  have k1 := k0.trans (heap_alloc_new w _)
  have c0 : w1.cell? ⟨w.heap.size, 0, none⟩ = some (.int .i64 1) := (Joins.cell_of_block k1 0).trans rfl
  have c1 : w1.cell? ⟨w.heap.size, 1, none⟩ = some (.int .i64 4) := (Joins.cell_of_block k1 1).trans rfl
  have c2 : w1.cell? ⟨w.heap.size, 2, none⟩ = some (.int .i64 7) := (Joins.cell_of_block k1 2).trans rfl
  have B1 : Hid (Below w.heap.size w w1) := HB0.out.trans (b1.mono HB0.out.size)
  have hat := atN_lt ys 0 3 (by decide)
  clear b1 k0 k1 HB0
  generalize atN ys 0 3 = r at hat
  obtain ⟨n, q, f, HN, hn0, hn7, hcell⟩ : ∃ n q f : Nat, Hid ((n = 1 ∧ q = 1 ∧ f = 0) ∨ (n = 4 ∧ q = 3 ∧ f = 1) ∨ (n = 7 ∧ q = 5 ∧ f = 2)) ∧ 0 < n ∧ n ≤ 7 ∧ w1.cell? ⟨w.heap.size, r, none⟩ = some (.int .i64 (n : Int)) := by
    rcases (by omega : r = 0 ∨ r = 1 ∨ r = 2) with rfl | rfl | rfl
    · exact ⟨1, 1, 0, .inl ⟨rfl, rfl, rfl⟩, by decide, by decide, c0⟩
    · exact ⟨4, 3, 1, .inr (.inl ⟨rfl, rfl, rfl⟩), by decide, by decide, c1⟩
    · exact ⟨7, 5, 2, .inr (.inr ⟨rfl, rfl, rfl⟩), by decide, by decide, c2⟩
  have hr3 : (r : Int) < 3 := by omega
  clear c0 c1 c2 hat
  have CQ : ∀ W, Calls Try.prog 13 #[.int .i64 n] W fun e w' => e = .returned (.tuple #[.int .i64 q, .int .i64 0]) ∧ W = w' := fun W => by
    rcases HN.out with ⟨rfl, rfl, rfl⟩ | ⟨rfl, rfl, rfl⟩ | ⟨rfl, rfl, rfl⟩ <;> exact implQuorumOf_any _ W
  have CF : ∀ W, Calls Try.prog 17 #[.int .i64 n] W fun e w' => e = .returned (.tuple #[.int .i64 f, .int .i64 0]) ∧ W = w' := fun W => by
    rcases HN.out with ⟨rfl, rfl, rfl⟩ | ⟨rfl, rfl, rfl⟩ | ⟨rfl, rfl, rfl⟩ <;> exact (implFaultsOf_any _ W).mono fun _ _ h => ⟨h.1, h.2.symm⟩
  have HCQ : Hid (∀ W, Calls Try.prog 13 #[.int .i64 n] W fun e w' => e = .returned (.tuple #[.int .i64 q, .int .i64 0]) ∧ W = w') := CQ
  have HCF : Hid (∀ W, Calls Try.prog 17 #[.int .i64 n] W fun e w' => e = .returned (.tuple #[.int .i64 f, .int .i64 0]) ∧ W = w') := CF
  clear CQ CF
  have hq5 : q ≤ 5 := by rcases HN.out with ⟨_, _, _⟩ | ⟨_, _, _⟩ | ⟨_, _, _⟩ <;> omega
  have hf2 : f ≤ 2 := by rcases HN.out with ⟨_, _, _⟩ | ⟨_, _, _⟩ | ⟨_, _, _⟩ <;> omega
  have t1 : ((q : Int) != 2 * (f : Int) + 1) = false := by rcases HN.out with ⟨_, rfl, rfl⟩ | ⟨_, rfl, rfl⟩ | ⟨_, rfl, rfl⟩ <;> decide
  have t2 : ¬ (2 * (q : Int) - (n : Int) < (f : Int) + 1) := by rcases HN.out with ⟨_, _, _⟩ | ⟨_, _, _⟩ | ⟨_, _, _⟩ <;> omega
  have t3 : ¬ ((n : Int) - (f : Int) < (q : Int)) := by rcases HN.out with ⟨_, _, _⟩ | ⟨_, _, _⟩ | ⟨_, _, _⟩ <;> omega
  go_wp2_with (first | (go_at_call 13; refine (HCQ.out _).mono ?_; rintro e w2 ⟨rfl, rfl⟩) | (go_at_call 17; refine (HCF.out _).mono ?_; rintro e w2 ⟨rfl, rfl⟩) | fail)
  clear hcell
  go_loopw [10, 12] (fun u i wr => ∃ (k : Nat) (l : List Int), k ≤ 200 ∧ i = .int .i64 k ∧ Hid (Ch n q l) ∧ Hid (OwnI wr w.heap.size u l ∧ Below w.heap.size w wr ∧ u ≠ .slice none 0 0 ∧ some (w1.heap.size + 1) ≠ u.ownBlock ∧ OwnI wr w.heap.size (.slice (some ⟨w1.heap.size + 1, 0, none⟩) 0 0) [])) (fun _ i _ => 200 - (intOf i).toNat)
  case atStart =>
    have e1 : (w1.alloc (.cells #[] 3)).heap.size = w1.heap.size + 1 := by simp
    have o1 := OwnI.made w1 w.heap.size B1.out.size
    have o2 := OwnI.made (w1.alloc (.cells #[] 3)) w.heap.size (by rw [e1]; have := B1.out.size; omega)
    rw [e1] at o2
    refine ⟨0, [], by omega, rfl, Ch.nil n q, ⟨OwnI.below o1 (bel_new _ _), (B1.out.alloc B1.out.size _).alloc (by rw [e1]; have := B1.out.size; omega) _, by simp, by simp [Value.ownBlock], o2⟩⟩
  case round =>
    obtain ⟨k, l, hk, rfl, HC, HR⟩ := hrel
    obtain ⟨g, cp, rfl⟩ := OwnI.some HR.out.1 HR.out.2.2.1
    have hlq : l.length ≤ q := HC.out.2.2
    by_cases hlt : (l.length : Int) < (q : Int) ∧ (k : Int) < 200
    · obtain ⟨hl1, hl2⟩ := hlt
      go_wp2_with fail
      refine (atN_any _ xs k n wr (G0.out.below HR.out.2.1) HX.out (by omega) hn0 (by omega)).mono ?_
      rintro e w2 ⟨rfl, b2⟩
      have hat := atN_lt xs k n hn0
      have HR2 : Hid (OwnI w2 w.heap.size (.slice (some ⟨g, 0, none⟩) l.length cp) l ∧ Below w.heap.size w w2 ∧ some (w1.heap.size + 1) ≠ (Value.slice (some ⟨g, 0, none⟩) l.length cp).ownBlock ∧ OwnI w2 w.heap.size (.slice (some ⟨w1.heap.size + 1, 0, none⟩) 0 0) []) := ⟨OwnI.below HR.out.1 b2, HR.out.2.1.trans (b2.mono HR.out.2.1.size), HR.out.2.2.2.1, OwnI.below HR.out.2.2.2.2 b2⟩
      clear b2 HR
      generalize atN xs k n = z at hat
      go_wp2_with fail
      refine (hasInt_any _ l (z : Int) w2 (HR2.out.1.row (HC.out.range hn7)) (by omega)).mono ?_
      rintro e w3 ⟨rfl, b3⟩
      have HR3 : Hid (OwnI w3 w.heap.size (.slice (some ⟨g, 0, none⟩) l.length cp) l ∧ Below w.heap.size w w3 ∧ some (w1.heap.size + 1) ≠ (Value.slice (some ⟨g, 0, none⟩) l.length cp).ownBlock ∧ OwnI w3 w.heap.size (.slice (some ⟨w1.heap.size + 1, 0, none⟩) 0 0) []) := ⟨OwnI.below HR2.out.1 b3, HR2.out.2.1.trans (b3.mono HR2.out.2.1.size), HR2.out.2.2.1, OwnI.below HR2.out.2.2.2 b3⟩
      clear b3 HR2
      by_cases hin : (z : Int) ∈ l
      · rw [decide_eq_true hin]
        go_wp2_with fail
        exact ⟨⟨k + 1, l, by omega, by go_num, HC, ⟨HR3.out.1, HR3.out.2.1, by simp, HR3.out.2.2.1, HR3.out.2.2.2⟩⟩, by simp [intOf]; omega⟩
      · rw [decide_eq_false hin]
        have HC2 : Hid (Ch n q (l ++ [(z : Int)])) := HC.out.add hat (by omega) hin
        go_wp2_with (at_builtin; go_must (refine list_int1k (by rfl) _ _ 28 (by rfl) i0 Try.underlying28 hi0 hz0 hz1 hz2 w.heap.size w w3 _ l (z : Int) (by rfl) HR3.out.1 HR3.out.2.1 HR3.out.2.1.size (by rfl) (by omega) ?_; intro v4 w4 o4 b4 hne4 k4))
        have hx4 : w1.heap.size + 1 < w3.heap.size := by
          obtain ⟨_, h | ⟨g', cap', cur, he, _, hg, _⟩⟩ := HR3.out.2.2.2
          · cases h.1
          · cases he; exact (Array.getElem?_eq_some_iff.1 hg).1
        have h4 := k4 _ hx4 HR3.out.2.2.1
        exact ⟨⟨k + 1, l ++ [(z : Int)], by omega, by go_num, HC2, ⟨o4, b4, hne4, h4.2, OwnI.kept HR3.out.2.2.2 (fun g' hg' => by cases hg'; exact h4.1)⟩⟩, by simp [intOf]; omega⟩
    · have hend : Hid (¬ ((l.length : Int) < (q : Int)) ∨ k = 200) := by show _ ∨ _; omega
      have HL : Hid (Ch n q l) := HC
      have HR1 : Hid (OwnI wr w.heap.size (.slice (some ⟨g, 0, none⟩) l.length cp) l ∧ Below w.heap.size w wr ∧ some (w1.heap.size + 1) ≠ (Value.slice (some ⟨g, 0, none⟩) l.length cp).ownBlock ∧ OwnI wr w.heap.size (.slice (some ⟨w1.heap.size + 1, 0, none⟩) 0 0) []) := ⟨HR.out.1, HR.out.2.1, HR.out.2.2.2.1, HR.out.2.2.2.2⟩
      have hlt' : ¬ ((l.length : Int) < (q : Int)) ∨ ¬ (k : Int) < 200 := by omega
      clear HR HC hlt
      rename World => wk
      have HG : Hid (some g ≠ (Value.slice (some ⟨w1.heap.size + 1, 0, none⟩) 0 0).ownBlock) := fun e => HR1.out.2.2.1 (by simpa [Value.ownBlock] using e.symm)
      by_cases hl1 : (l.length : Int) < (q : Int)
      · have hk4 : ¬ (k : Int) < 200 := by rcases hlt' with h' | h'; exact absurd hl1 h'; exact h'
        clear hlt' hend
        go_wp2_with fail
        go_loopw [11, 14] (fun u i wr => ∃ (k : Nat) (m : List Int), k ≤ 200 ∧ i = .int .i64 k ∧ Hid (Ch n q m) ∧ Hid (OwnI wr w.heap.size u m ∧ Below w.heap.size w wr ∧ u ≠ .slice none 0 0 ∧ some g ≠ u.ownBlock ∧ OwnI wr w.heap.size (.slice (some ⟨g, 0, none⟩) l.length cp) l)) (fun _ i _ => 200 - (intOf i).toNat)
        case atStart => exact ⟨0, [], by omega, rfl, Ch.nil n q, ⟨HR1.out.2.2.2, HR1.out.2.1, by simp, HG.out, HR1.out.1⟩⟩
        case round =>
          clear HR1 HG
          clear hk hk4
          obtain ⟨k, m, hk, rfl, HC, HR⟩ := hrel
          obtain ⟨g2, cp2, rfl⟩ := OwnI.some HR.out.1 HR.out.2.2.1
          have hmq : m.length ≤ q := HC.out.2.2
          by_cases hlt : (m.length : Int) < (q : Int) ∧ (k : Int) < 200
          · obtain ⟨hm1, hm2⟩ := hlt
            go_wp2_with fail
            refine (atN_any _ ys k n wr (G1.out.below HR.out.2.1) HY.out (by omega) hn0 (by omega)).mono ?_
            rintro e w2 ⟨rfl, b2⟩
            have hat := atN_lt ys k n hn0
            have HR2 : Hid (OwnI w2 w.heap.size (.slice (some ⟨g2, 0, none⟩) m.length cp2) m ∧ Below w.heap.size w w2 ∧ some g ≠ (Value.slice (some ⟨g2, 0, none⟩) m.length cp2).ownBlock ∧ OwnI w2 w.heap.size (.slice (some ⟨g, 0, none⟩) l.length cp) l) := ⟨OwnI.below HR.out.1 b2, HR.out.2.1.trans (b2.mono HR.out.2.1.size), HR.out.2.2.2.1, OwnI.below HR.out.2.2.2.2 b2⟩
            clear b2 HR
            generalize atN ys k n = z at hat
            go_wp2_with fail
            refine (hasInt_any _ m (z : Int) w2 (HR2.out.1.row (HC.out.range hn7)) (by omega)).mono ?_
            rintro e w3 ⟨rfl, b3⟩
            have HR3 : Hid (OwnI w3 w.heap.size (.slice (some ⟨g2, 0, none⟩) m.length cp2) m ∧ Below w.heap.size w w3 ∧ some g ≠ (Value.slice (some ⟨g2, 0, none⟩) m.length cp2).ownBlock ∧ OwnI w3 w.heap.size (.slice (some ⟨g, 0, none⟩) l.length cp) l) := ⟨OwnI.below HR2.out.1 b3, HR2.out.2.1.trans (b3.mono HR2.out.2.1.size), HR2.out.2.2.1, OwnI.below HR2.out.2.2.2 b3⟩
            clear b3 HR2
            by_cases hin : (z : Int) ∈ m
            · rw [decide_eq_true hin]
              go_wp2_with fail
              exact ⟨⟨k + 1, m, by omega, by go_num, HC, ⟨HR3.out.1, HR3.out.2.1, by simp, HR3.out.2.2.1, HR3.out.2.2.2⟩⟩, by simp [intOf]; omega⟩
            · rw [decide_eq_false hin]
              have HC2 : Hid (Ch n q (m ++ [(z : Int)])) := HC.out.add hat (by omega) hin
              go_wp2_with (at_builtin; go_must (refine list_int1k (by rfl) _ _ 28 (by rfl) i0 Try.underlying28 hi0 hz0 hz1 hz2 w.heap.size w w3 _ m (z : Int) (by rfl) HR3.out.1 HR3.out.2.1 HR3.out.2.1.size (by rfl) (by omega) ?_; intro v4 w4 o4 b4 hne4 k4))
              have hx4 : g < w3.heap.size := by
                obtain ⟨_, h | ⟨g', cap', cur, he, _, hg, _⟩⟩ := HR3.out.2.2.2
                · cases h.1
                · cases he; exact (Array.getElem?_eq_some_iff.1 hg).1
              have h4 := k4 _ hx4 HR3.out.2.2.1
              exact ⟨⟨k + 1, m ++ [(z : Int)], by omega, by go_num, HC2, ⟨o4, b4, hne4, h4.2, OwnI.kept HR3.out.2.2.2 (fun g' hg' => by cases hg'; exact h4.1)⟩⟩, by simp [intOf]; omega⟩
          · have HM : Hid (Ch n q m) := HC
            have HR1 : Hid (RowI wr (.slice (some ⟨g2, 0, none⟩) m.length cp2) m ∧ Below w.heap.size w wr ∧ RowI wr (.slice (some ⟨g, 0, none⟩) l.length cp) l) := ⟨HR.out.1.row (HC.out.range hn7), HR.out.2.1, HR.out.2.2.2.2.row (HL.out.range hn7)⟩
            clear HR HC
            rename World => wk2
            by_cases hm1 : (m.length : Int) < (q : Int)
            · have hm2 : ¬ (k : Int) < 200 := by omega
              clear hlt
              go_wp2_with fail
              go_ret
              exact ⟨rfl, HR1.out.2.1⟩
            · clear hlt
              go_wp2_with fail
              go_ret
              exact ⟨rfl, HR1.out.2.1⟩
      · clear hlt' hend
        go_wp2_with fail
        go_loopw [11, 14] (fun u i wr => ∃ (k : Nat) (m : List Int), k ≤ 200 ∧ i = .int .i64 k ∧ Hid (Ch n q m) ∧ Hid (OwnI wr w.heap.size u m ∧ Below w.heap.size w wr ∧ u ≠ .slice none 0 0 ∧ some g ≠ u.ownBlock ∧ OwnI wr w.heap.size (.slice (some ⟨g, 0, none⟩) l.length cp) l)) (fun _ i _ => 200 - (intOf i).toNat)
        case atStart => exact ⟨0, [], by omega, rfl, Ch.nil n q, ⟨HR1.out.2.2.2, HR1.out.2.1, by simp, HG.out, HR1.out.1⟩⟩
        case round =>
          clear HR1 HG
          clear hk
          obtain ⟨k, m, hk, rfl, HC, HR⟩ := hrel
          obtain ⟨g2, cp2, rfl⟩ := OwnI.some HR.out.1 HR.out.2.2.1
          have hmq : m.length ≤ q := HC.out.2.2
          by_cases hlt : (m.length : Int) < (q : Int) ∧ (k : Int) < 200
          · obtain ⟨hm1, hm2⟩ := hlt
            go_wp2_with fail
            refine (atN_any _ ys k n wr (G1.out.below HR.out.2.1) HY.out (by omega) hn0 (by omega)).mono ?_
            rintro e w2 ⟨rfl, b2⟩
            have hat := atN_lt ys k n hn0
            have HR2 : Hid (OwnI w2 w.heap.size (.slice (some ⟨g2, 0, none⟩) m.length cp2) m ∧ Below w.heap.size w w2 ∧ some g ≠ (Value.slice (some ⟨g2, 0, none⟩) m.length cp2).ownBlock ∧ OwnI w2 w.heap.size (.slice (some ⟨g, 0, none⟩) l.length cp) l) := ⟨OwnI.below HR.out.1 b2, HR.out.2.1.trans (b2.mono HR.out.2.1.size), HR.out.2.2.2.1, OwnI.below HR.out.2.2.2.2 b2⟩
            clear b2 HR
            generalize atN ys k n = z at hat
            go_wp2_with fail
            refine (hasInt_any _ m (z : Int) w2 (HR2.out.1.row (HC.out.range hn7)) (by omega)).mono ?_
            rintro e w3 ⟨rfl, b3⟩
            have HR3 : Hid (OwnI w3 w.heap.size (.slice (some ⟨g2, 0, none⟩) m.length cp2) m ∧ Below w.heap.size w w3 ∧ some g ≠ (Value.slice (some ⟨g2, 0, none⟩) m.length cp2).ownBlock ∧ OwnI w3 w.heap.size (.slice (some ⟨g, 0, none⟩) l.length cp) l) := ⟨OwnI.below HR2.out.1 b3, HR2.out.2.1.trans (b3.mono HR2.out.2.1.size), HR2.out.2.2.1, OwnI.below HR2.out.2.2.2 b3⟩
            clear b3 HR2
            by_cases hin : (z : Int) ∈ m
            · rw [decide_eq_true hin]
              go_wp2_with fail
              exact ⟨⟨k + 1, m, by omega, by go_num, HC, ⟨HR3.out.1, HR3.out.2.1, by simp, HR3.out.2.2.1, HR3.out.2.2.2⟩⟩, by simp [intOf]; omega⟩
            · rw [decide_eq_false hin]
              have HC2 : Hid (Ch n q (m ++ [(z : Int)])) := HC.out.add hat (by omega) hin
              go_wp2_with (at_builtin; go_must (refine list_int1k (by rfl) _ _ 28 (by rfl) i0 Try.underlying28 hi0 hz0 hz1 hz2 w.heap.size w w3 _ m (z : Int) (by rfl) HR3.out.1 HR3.out.2.1 HR3.out.2.1.size (by rfl) (by omega) ?_; intro v4 w4 o4 b4 hne4 k4))
              have hx4 : g < w3.heap.size := by
                obtain ⟨_, h | ⟨g', cap', cur, he, _, hg, _⟩⟩ := HR3.out.2.2.2
                · cases h.1
                · cases he; exact (Array.getElem?_eq_some_iff.1 hg).1
              have h4 := k4 _ hx4 HR3.out.2.2.1
              exact ⟨⟨k + 1, m ++ [(z : Int)], by omega, by go_num, HC2, ⟨o4, b4, hne4, h4.2, OwnI.kept HR3.out.2.2.2 (fun g' hg' => by cases hg'; exact h4.1)⟩⟩, by simp [intOf]; omega⟩
          · have HM : Hid (Ch n q m) := HC
            have HR1 : Hid (RowI wr (.slice (some ⟨g2, 0, none⟩) m.length cp2) m ∧ Below w.heap.size w wr ∧ RowI wr (.slice (some ⟨g, 0, none⟩) l.length cp) l) := ⟨HR.out.1.row (HC.out.range hn7), HR.out.2.1, HR.out.2.2.2.2.row (HL.out.range hn7)⟩
            clear HR HC
            rename World => wk2
            by_cases hm1 : (m.length : Int) < (q : Int)
            · have hm2 : ¬ (k : Int) < 200 := by omega
              clear hlt
              go_wp2_with fail
              go_ret
              exact ⟨rfl, HR1.out.2.1⟩
            · clear hlt
              go_wp2_with fail
              go_loopw [16, 17] (fun c i wr => ∃ k : Nat, k ≤ q ∧ i = .int .i64 k ∧ c = .int .i64 (both l m k : Nat) ∧ Hid (RowI wr (.slice (some ⟨g2, 0, none⟩) m.length cp2) m ∧ Below w.heap.size w wr ∧ RowI wr (.slice (some ⟨g, 0, none⟩) l.length cp) l)) (fun _ i _ => q - (intOf i).toNat)
              case atStart => exact ⟨0, by omega, rfl, by simp [both], HR1⟩
              case round =>
                clear HR1 hk
                obtain ⟨k, hk, rfl, rfl, HR⟩ := hrel
                have hkb := both_le l m k
                by_cases hlt : k < q
                · obtain ⟨a', cap', he, hc, _⟩ := HR.out.2.2
                  have hkl : k < l.length := by omega
                  rcases hc with hc | ⟨b, off, rfl, _, _, hcell⟩
                  · exact absurd hkl (by rw [hc]; simp)
                  cases he
                  have hc1 := hcell k hkl
                  rw [Nat.zero_add] at hc1
                  have HS : Hid (both l m (k + 1) = both l m k + (if nth l k ∈ m then 1 else 0)) := both_step hkl
                  clear hcell
                  go_wp2_with fail
                  refine (hasInt_any _ m (nth l k) wr HR.out.1 (by omega)).mono ?_
                  rintro e w3 ⟨rfl, b3⟩
                  have HR3 : Hid (RowI w3 (.slice (some ⟨g2, 0, none⟩) m.length cp2) m ∧ Below w.heap.size w w3 ∧ RowI w3 (.slice (some ⟨g, 0, none⟩) l.length cp) l) := ⟨HR.out.1.below b3, HR.out.2.1.trans (b3.mono HR.out.2.1.size), HR.out.2.2.below b3⟩
                  clear b3 HR hc1
                  by_cases hin : nth l k ∈ m
                  · rw [decide_eq_true hin]
                    rw [if_pos hin] at HS
                    go_wp2_with fail
                    exact ⟨⟨k + 1, by omega, by go_num, by rw [HS.out]; simp, HR3⟩, by simp [intOf]; omega⟩
                  · rw [decide_eq_false hin]
                    rw [if_neg hin] at HS
                    go_wp2_with fail
                    exact ⟨⟨k + 1, by omega, by go_num, by rw [HS.out]; simp, HR3⟩, by simp [intOf]; omega⟩
                · obtain rfl : k = q := by omega
                  have hfin : (f : Int) + 1 ≤ (both l m k : Nat) := by have := fin HN.out HL.out HM.out (by omega) (by omega); omega
                  go_wp2_with fail
                  refine (atN_any _ xs 0 21 wr (G0.out.below HR.out.2.1) HX.out (by omega) (by decide) (by decide)).mono ?_
                  rintro e w3 ⟨rfl, b3⟩
                  have HB3 : Hid (Below w.heap.size w w3) := HR.out.2.1.trans (b3.mono HR.out.2.1.size)
                  have hat := atN_lt xs 0 21 (by decide)
                  clear b3 HR
                  generalize atN xs 0 21 = z at hat
                  obtain ⟨y, hy, hyl⟩ : ∃ y : Nat, (z : Int) % (n : Int) = (y : Int) ∧ y ≤ z := ⟨z % n, by omega, Nat.mod_le _ _⟩
                  have CP : Calls Try.prog 15 #[.int .i64 z, .int .i64 n] w3 fun e w' => e = .returned (.tuple #[.int .i64 y, .int .i64 0]) ∧ w3 = w' := by
                    have hc : fCode n = 0 := by rcases HN.out with ⟨rfl, _⟩ | ⟨rfl, _⟩ | ⟨rfl, _⟩ <;> rfl
                    obtain ⟨e1, e2⟩ := p_some (v := (z : Int)) (n := (n : Int)) ⟨hc, by omega, by omega⟩
                    have := implPrimaryOf_any z n w3
                    rwa [e1, e2, hy] at this
                  have HCP : Hid (Calls Try.prog 15 #[.int .i64 z, .int .i64 n] w3 fun e w' => e = .returned (.tuple #[.int .i64 y, .int .i64 0]) ∧ w3 = w') := CP
                  clear CP
                  generalize both l m k = bb at hfin hkb
                  have hnz : ¬ (n : Int) = 0 := by omega
                  have hbb : (bb : Int) ≥ (f : Int) + 1 := by omega
                  go_wp2_with (go_at_call 15; refine HCP.out.mono ?_; rintro e w4 ⟨rfl, rfl⟩)
                  go_ret
                  exact ⟨rfl, HB3.out⟩

/-! ### THE ROW's STEP -/
set_option maxRecDepth 100000 in
theorem lifted (os : Os) (started : os.Started) (H : Type) (enc : TypeId × Value → H) :
    ReturnsInHanded {} Try.checked os 5 .any (Rows.fnQuorumsSpec.pre6 enc Try.prog Try.f5 Rows.fnQuorumsRow.domain false) (Rows.fnQuorumsSpec.post enc Try.prog Try.f5 false true false false) := by
  refine returnsInHanded_of_change (C := Try.checked) own started (by kernel_rfl) Try.func5
    (ChangeSpec.witness6 (enc := enc) (C := Try.checked) false ⟨#[], #[.slice none 0 0, .slice none 0 0], []⟩ 8 (by kernel_rfl) (by kernel_rfl) (by kernel_rfl) (by kernel_rfl)) ?_
  intro W base args ds gs before hval0 hW hcnd _
  have hval : ∀ (j : Nat) t v, Try.f5.params[j]? = some t → args[j]? = some v → Value.okWide Try.prog W .any base t v := hval0
  have hW' := hW
  obtain ⟨p, q, hA0, hV, rfl, hfz, hnd⟩ := hW
  have hA : DataW.TrodAll enc Try.prog W 0 (fun _ => true) true Try.f5.params.toList args.toList ds p := hA0
  rw [Try.params5] at hA hval
  obtain ⟨v0, vs0, d0, ds0, p0, q0, hargs, rfl, rfl, h0, r0⟩ := trodAll_cons hA
  obtain ⟨v1, vs1, d1, ds1, p1, q1, rfl, rfl, rfl, h1, r1⟩ := trodAll_cons r0
  obtain ⟨rfl, rfl, rfl⟩ := trodAll_nil r1
  obtain rfl : args = #[v0, v1] := by cases args; simp_all
  obtain ⟨rfl, rfl⟩ := trodVars_none hV
  have k00 := h0
  have lt0 : ∀ x ∈ p0, x.block < W.heap.size := by obtain ⟨m, hm⟩ := k00; exact DataW.trod_lt m _ _ _ hm
  obtain ⟨xs0, w0⟩ := Op.open_bytes (hval 0 27 v0 rfl rfl) h0 (fun _ => rfl)
  have k10 := h1
  have lt1 : ∀ x ∈ p1, x.block < W.heap.size := by obtain ⟨m, hm⟩ := k10; exact DataW.trod_lt m _ _ _ hm
  obtain ⟨xs1, w1⟩ := Op.open_bytes (hval 1 27 v1 rfl rfl) h1 (fun _ => rfl)
  clear hA0 hval0
  refine (walk v0 xs0 w0 v1 xs1 w1).mono fun e W' ⟨he, bel⟩ => ?_
  subst he
  exact ⟨_, rfl, _, _, _, [], _, [], hW', trodAll_mk1 (shut_bool Try.underlying4 _), (trodAll_cons_mk (Below.trod laidOut (by kernel_rfl) (of_decide_eq_true (by kernel_rfl)) k00 bel lt0) (trodAll_cons_mk (Below.trod laidOut (by kernel_rfl) (of_decide_eq_true (by kernel_rfl)) k10 bel lt1) trodAll_mk0)), rfl, bel.frame _, fun h => by cases h⟩

theorem over : Rows.fnQuorumsRow.holds Try.pinned (OpenSpec.ofChange Rows.fnQuorumsSpec) :=
  OpenClaim.holds_of_wide 5 Try.f5 rfl rfl rfl rfl rfl rfl rfl ⟨rfl, rfl, rfl, rfl, rfl⟩ rfl rfl rfl rfl rfl (by kernel_rfl) Try.func5 (by kernel_rfl)
    (of_decide_eq_true (by kernel_rfl)) (by unfold Func.isWrapper; first | (rw [if_pos (by decide +kernel)]; kernel_rfl) | (rw [if_neg (by decide +kernel)]; exact ⟨rfl, rfl⟩))
    (fun os started H enc _ => lifted os started H enc)

end Go.Proofs.Ytpljjchjdejcfaa.fnQuorums
namespace Go.Proofs.Ytpljjchjdejcfaa
/-- THE STATEMENT. -/
theorem fnQuorums_holds : Rows.FnQuorumsSaid := fnQuorums.over
end Go.Proofs.Ytpljjchjdejcfaa
