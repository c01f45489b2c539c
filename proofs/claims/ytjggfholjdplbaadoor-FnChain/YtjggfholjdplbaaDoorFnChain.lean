/-
  A chain of keys signs with each of them once, and then no more.
  Conditions: none beyond the given row's own; the package variable that it reads starts as the program's text lays it (the card ties it).
-/
import Derived.Test.YtjggfholjdplbaaDoorNx2
import Derived.Test.YtjggfholjdplbaaDoorSs
import Derived.Test.YtjggfholjdplbaaDoorGn3
import Derived.Test.YtjggfholjdplbaaDoorOb
import Derived.Test.YtjggfholjdplbaaDoorHashLaid
import Derived.WalkKit
namespace Go.Proofs.YtjggfholjdplbaaDoor.fnChain
open Go.ChangeShapes Go.WideShapes Go.ChangeAt Go.RowKit
open Go.ChangeMaps (open_string shut_string)
open Go.Proofs.YtjggfholjdplbaaDoor.Hl (own laidOut rowed door_met)

open Go.Proofs.YtjggfholjdplbaaDoor.Sl Go.Proofs.YtjggfholjdplbaaDoor.By Go.Proofs.YtjggfholjdplbaaDoor.Ap Go.Proofs.YtjggfholjdplbaaDoor.Tx Go.Proofs.YtjggfholjdplbaaDoor.Sh Go.Proofs.YtjggfholjdplbaaDoor.Mk Go.Proofs.YtjggfholjdplbaaDoor.Sg Go.Proofs.YtjggfholjdplbaaDoor.Sq Go.Proofs.YtjggfholjdplbaaDoor.Ck Go.Proofs.YtjggfholjdplbaaDoor.Nx Go.Proofs.YtjggfholjdplbaaDoor.Gn Go.Proofs.YtjggfholjdplbaaDoor.Hf Go.Proofs.YtjggfholjdplbaaDoor.Sa Go.Proofs.YtjggfholjdplbaaDoor.Kx Go.Proofs.YtjggfholjdplbaaDoor.Pa Go.Proofs.YtjggfholjdplbaaDoor.Ka Go.Proofs.YtjggfholjdplbaaDoor.Mb
theorem two_new (w : World) (o1 o2 : Obj) : Below w.heap.size w ((w.alloc o1).alloc o2) ∧ ((w.alloc o1).alloc o2).heap.size = w.heap.size + 1 + 1 := ⟨(bel_new w o1).trans ((bel_new _ _).mono (by rw [size_new]; omega)), by rw [size_new, size_new]⟩
theorem two_a (w : World) (cs : Array Value) (t : TypeId) (o2 : Obj) : ((w.alloc (.cells cs t)).alloc o2).heap[w.heap.size]? = some (.cells cs t (0, 0)) := (Below.heap_alloc _ _ _ (by rw [size_new]; omega)).trans (blk_new _ _ _)
theorem two_b (w : World) (o1 : Obj) (cs : Array Value) (t : TypeId) : ((w.alloc o1).alloc (.cells cs t)).heap[w.heap.size + 1]? = some (.cells cs t (0, 0)) := by
  have := blk_new (w.alloc o1) cs t
  rw [size_new] at this
  exact this
theorem two_o (w : World) (o1 o2 : Obj) {k : Nat} {x : Option Obj} (hk : k < w.heap.size) (h : w.heap[k]? = x) : ((w.alloc o1).alloc o2).heap[k]? = x := (Below.heap_alloc _ _ _ (by rw [size_new]; omega)).trans ((Below.heap_alloc _ _ _ hk).trans h)
theorem ck_yes {s : ByteArray} {j : Nat} (hs : s.size = 32) (hj : j ≤ 8) : ckB s (j : Int) = true := by
  rcases ck_cases s (j : Int) with ⟨h, _⟩ | ⟨_, h, _⟩ | ⟨_, _, h, _⟩ | ⟨_, _, _, e⟩
  · exact absurd hs h
  · omega
  · omega
  · exact e
theorem next_good (s : ByteArray) (j : Nat) (hs : s.size = 32) (hj : j < 8) : ∃ (ta tb tc : List ByteArray), (ta.length ≤ 32 ∧ tb.length ≤ 32 ∧ tc.length ≤ 32) ∧
    (∀ W, KTab W → 0 < W.heap.size → Calls Tryd.prog 32 #[.agg #[.string s, .int .i64 j], .string (⟨#[116, 101, 120, 116]⟩ : ByteArray)] W fun e w' => ∃ va vb vc, e = .returned (.tuple #[.agg #[.string s, .int .i64 ((j : Int) + 1)], .agg #[.int .i64 j, va, vb, vc], .int .i64 0]) ∧ SigV w' W.heap.size va vb vc ta tb tc ∧ Below W.heap.size W w') ∧
    (∀ W, Calls Tryd.prog 20 #[.string s, .int .i64 j, .string (⟨#[116, 101, 120, 116]⟩ : ByteArray)] W fun e w' => ∃ va vb vc, e = .returned (.tuple #[.agg #[.int .i64 j, va, vb, vc], .int .i64 0]) ∧ SigV w' W.heap.size va vb vc ta tb tc ∧ Below W.heap.size W w') := by
  have hm : ¬ 65530 < (⟨#[116, 101, 120, 116]⟩ : ByteArray).size := by decide
  obtain ⟨e1, e2, e3, e4, e5, e6, e7⟩ := n_good (s := s) (n := (j : Int)) (msg := (⟨#[116, 101, 120, 116]⟩ : ByteArray)) (by unfold nC; rw [if_neg hm, ck_yes hs (by omega), if_pos rfl, if_neg (by omega)])
  have hkf : kf s (j : Int) = 0 := by
    unfold kf
    have h7 : inR (j : Int) 0 7 = true := by unfold inR; rw [decide_eq_true (by omega), decide_eq_true (by omega)]; rfl
    rw [hf_ok hs, if_pos rfl, h7]
    rfl
  obtain ⟨f1, f2, f3, f4, f5⟩ := g_good (s := s) (i := (j : Int)) (msg := (⟨#[116, 101, 120, 116]⟩ : ByteArray)) (by unfold gC mbCode; rw [if_neg hm, if_pos rfl]; exact hkf)
  refine ⟨onesTo s j (dig (⟨#[116, 101, 120, 116]⟩ : ByteArray)) 32, restTo s j (dig (⟨#[116, 101, 120, 116]⟩ : ByteArray)) 32, pathN 3 (keysTo s 8) j, ⟨by rw [onesTo_length]; decide, by rw [restTo_length]; decide, by rw [pathN_length]; decide⟩, fun W h1 h2 => ?_, fun W => ?_⟩
  · have h := implSignNext_any s (j : Int) (⟨#[116, 101, 120, 116]⟩ : ByteArray) W h1 h2
    rw [e1, e2, e3, e4, e5, e6, e7, Int.toNat_natCast] at h
    exact h
  · have h := specSignAt_any s (⟨#[116, 101, 120, 116]⟩ : ByteArray) (j : Int) W
    rw [f1, f2, f3, f4, f5, Int.toNat_natCast] at h
    exact h
theorem next_used (s : ByteArray) (hs : s.size = 32) : ∀ W, KTab W → 0 < W.heap.size → Calls Tryd.prog 32 #[.agg #[.string s, .int .i64 8], .string (⟨#[116, 101, 120, 116]⟩ : ByteArray)] W fun e w' => ∃ va vb vc, e = .returned (.tuple #[.agg #[.string s, .int .i64 8], .agg #[.int .i64 0, va, vb, vc], .int .i64 13]) ∧ SigV w' W.heap.size va vb vc [] [] [] ∧ Below W.heap.size W w' := by
  intro W h1 h2
  have hm : ¬ 65530 < (⟨#[116, 101, 120, 116]⟩ : ByteArray).size := by decide
  obtain ⟨e1, e2, e3, e4, e5, e6, e7⟩ := n_used (s := s) (n := 8) (msg := (⟨#[116, 101, 120, 116]⟩ : ByteArray)) (by unfold nC; rw [if_neg hm, show ckB s 8 = true from ck_yes (j := 8) hs (by decide), if_pos rfl, if_pos rfl])
  have h := implSignNext_any s 8 (⟨#[116, 101, 120, 116]⟩ : ByteArray) W h1 h2
  rw [e1, e2, e3, e4, e5, e6, e7] at h
  exact h
set_option maxRecDepth 100000 in
set_option maxHeartbeats 3200000 in
/-- THE WALK: a chain signs with each key once, and then no more. -/
theorem walk (v0 : Value) (xs0 : List Int) {w : World} (r0 : RowB w v0 xs0) (v1 : Value) (xs1 : List Int) (r1 : RowB w v1 xs1) (hK : KTab w) (hp : 0 < w.heap.size) :
    Calls Tryd.prog 11 #[v0, v1] w fun e w' => e = .returned (.bool true) ∧ Below w.heap.size w w' := by
  have GK : Hid (KTab w ∧ 0 < w.heap.size) := ⟨hK, hp⟩
  have HR : Hid (RowB w v0 xs0 ∧ RowB w v1 xs1) := ⟨r0, r1⟩
  obtain ⟨a0, c0, rfl, _, _⟩ := r0
  obtain ⟨a1, c1, rfl, _, _⟩ := r1
  clear hK hp
  by_cases hb0 : (1048576 : Int) < (xs0.length : Int)
  · go_enter Tryd.func11, Tryd.ntmps11
    go_wp2
    go_ret
    exact ⟨rfl, Below.refl _ _⟩
  by_cases hb1 : (1048576 : Int) < (xs1.length : Int)
  · go_enter Tryd.func11, Tryd.ntmps11
    go_wp2
    go_ret
    exact ⟨rfl, Below.refl _ _⟩
  have HL : Hid (xs0.length ≤ 1048576 ∧ xs1.length ≤ 1048576) := ⟨by omega, by omega⟩
  go_enter Tryd.func11, Tryd.ntmps11
  go_wp2_with fail
  refine (SeedOf_any _ xs0 w HR.out.1 HL.out.1).mono ?_
  rintro e w1 ⟨s, rfl, hs, b1⟩
  have HS : Hid (s.size = 32) := hs
  have B1 : Hid (Below w.heap.size w w1) := b1
  clear hs b1
  go_wp2_with fail
  refine (at_any _ xs1 0 8 w1 (HR.out.2.below B1.out) HL.out.2 (by decide) (by decide) (by decide)).mono ?_
  rintro e w2 ⟨j0, rfl, hj0, b2⟩
  have B2 : Hid (Below w.heap.size w w2) := B1.out.trans (b2.mono B1.out.size)
  have T2 : Hid (Below w.heap.size w (w2.alloc (.cells #[.string s, .int .i64 (j0 : Int)] 45)) ∧ (w2.alloc (.cells #[.string s, .int .i64 (j0 : Int)] 45)).heap[w2.heap.size]? = some (.cells #[.string s, .int .i64 (j0 : Int)] 45 (0, 0)) ∧ w.heap.size ≤ w2.heap.size) := ⟨B2.out.alloc B2.out.size _, blk_new _ _ _, B2.out.size⟩
  clear b2
  go_wp2_with fail
  generalize w2.heap.size = p at T2
  go_loopw [7] (fun i wr => ∃ j : Nat, j ≤ 8 ∧ i = .int .i64 j ∧ wr.heap[p]? = some (.cells #[.string s, .int .i64 (j : Int)] 45 (0, 0)) ∧ Below w.heap.size w wr) (fun i _ => 8 - (intOf i).toNat)
  case atStart => exact ⟨j0, by omega, rfl, T2.out.2.1, T2.out.1⟩
  case round =>
    obtain ⟨j, hj, rfl, hpb, hb⟩ := hrel
    have hpw : p < wr.heap.size := (Array.getElem?_eq_some_iff.1 hpb).1
    have k0 := (blk_cell hpb 0 (x := .string s) rfl).1
    have k1 := (blk_cell hpb 1 (x := .int .i64 (j : Int)) rfl).1
    have HPB : Hid (wr.heap[p]? = some (.cells #[.string s, .int .i64 (j : Int)] 45 (0, 0)) ∧ Below w.heap.size w wr ∧ w.heap.size ≤ p ∧ p < wr.heap.size) := ⟨hpb, hb, T2.out.2.2, hpw⟩
    clear hpb hb hpw
    by_cases hlt : j < 8
    · obtain ⟨ta, tb, tc, HLN0, HN0, HA0⟩ := next_good s j HS.out hlt
      have HLN : Hid (ta.length ≤ 32 ∧ tb.length ≤ 32 ∧ tc.length ≤ 32) := HLN0
      have HN : Hid (∀ W, KTab W → 0 < W.heap.size → Calls Tryd.prog 32 #[.agg #[.string s, .int .i64 j], .string (⟨#[116, 101, 120, 116]⟩ : ByteArray)] W fun e w' => ∃ va vb vc, e = .returned (.tuple #[.agg #[.string s, .int .i64 ((j : Int) + 1)], .agg #[.int .i64 j, va, vb, vc], .int .i64 0]) ∧ SigV w' W.heap.size va vb vc ta tb tc ∧ Below W.heap.size W w') := HN0
      have HA : Hid (∀ W, Calls Tryd.prog 20 #[.string s, .int .i64 j, .string (⟨#[116, 101, 120, 116]⟩ : ByteArray)] W fun e w' => ∃ va vb vc, e = .returned (.tuple #[.agg #[.int .i64 j, va, vb, vc], .int .i64 0]) ∧ SigV w' W.heap.size va vb vc ta tb tc ∧ Below W.heap.size W w') := HA0
      clear HLN0 HN0 HA0
      go_wp2_with fail
      refine (HN.out wr (GK.out.1.below HPB.out.2.1 GK.out.2) (Nat.lt_of_lt_of_le GK.out.2 HPB.out.2.1.size)).mono ?_
      rintro e w3 ⟨ua, ub, uc, rfl, s3, b3⟩
      obtain ⟨d1, f1, e1⟩ := RowT.form s3.oa.row
      obtain ⟨d2, f2, e2⟩ := RowT.form s3.ob.row
      obtain ⟨d3, f3, e3⟩ := RowT.form s3.oc.row
      subst e1 e2 e3
      have T3 : Hid (Below w3.heap.size w3 ((w3.alloc (.cells #[.string s, .int .i64 ((j : Int) + 1)] 45)).alloc (.cells #[.int .i64 (j : Int), .slice d1 ta.length f1, .slice d2 tb.length f2, .slice d3 tc.length f3] 31)) ∧ ((w3.alloc (.cells #[.string s, .int .i64 ((j : Int) + 1)] 45)).alloc (.cells #[.int .i64 (j : Int), .slice d1 ta.length f1, .slice d2 tb.length f2, .slice d3 tc.length f3] 31)).heap.size = w3.heap.size + 1 + 1) := two_new _ _ _
      have S3 : Hid (SigV w3 wr.heap.size (.slice d1 ta.length f1) (.slice d2 tb.length f2) (.slice d3 tc.length f3) ta tb tc ∧ Below w.heap.size w w3 ∧ w3.heap[p]? = some (.cells #[.string s, .int .i64 (j : Int)] 45 (0, 0)) ∧ p < w3.heap.size) := ⟨s3, HPB.out.2.1.trans (b3.mono HPB.out.2.1.size), (b3.block p HPB.out.2.2.2).trans HPB.out.1, Nat.lt_of_lt_of_le HPB.out.2.2.2 b3.size⟩
      clear s3 b3 k0 k1
      go_wp2_with fail
      refine (HA.out _).mono ?_
      rintro e w4 ⟨va, vb, vc, rfl, s4, b4⟩
      obtain ⟨a1, c1, e1⟩ := RowT.form s4.oa.row
      obtain ⟨a2, c2, e2⟩ := RowT.form s4.ob.row
      obtain ⟨a3, c3, e3⟩ := RowT.form s4.oc.row
      subst e1 e2 e3
      have b4' := b4
      rw [T3.out.2] at b4
      have S4 : Hid (SigV w4 wr.heap.size (.slice d1 ta.length f1) (.slice d2 tb.length f2) (.slice d3 tc.length f3) ta tb tc ∧ SigV w4 (w3.heap.size + 1 + 1) (.slice a1 ta.length c1) (.slice a2 tb.length c2) (.slice a3 tc.length c3) ta tb tc ∧ Below w.heap.size w w4 ∧ w4.heap[p]? = some (.cells #[.string s, .int .i64 (j : Int)] 45 (0, 0)) ∧ w4.heap[w3.heap.size]? = some (.cells #[.string s, .int .i64 ((j : Int) + 1)] 45 (0, 0)) ∧ w4.heap[w3.heap.size + 1]? = some (.cells #[.int .i64 (j : Int), .slice d1 ta.length f1, .slice d2 tb.length f2, .slice d3 tc.length f3] 31 (0, 0)) ∧ w3.heap.size + 1 + 1 ≤ w4.heap.size) := by
        have hp3 := S3.out.2.2.2
        have hz := S3.out.2.1.size
        refine ⟨(S3.out.1.below T3.out.1).below b4', by rw [← T3.out.2]; exact s4, (S3.out.2.1.trans (T3.out.1.mono hz)).trans (b4.mono (by omega)), (b4.block p (by omega)).trans (two_o _ _ _ hp3 S3.out.2.2.1), (b4.block _ (by omega)).trans (two_a _ _ _ _), (b4.block _ (by omega)).trans (two_b _ _ _ _), by have := b4.size; rw [T3.out.2] at this; exact this⟩
      have T4 : Hid (Below w4.heap.size w4 (w4.alloc (.cells #[.int .i64 (j : Int), .slice a1 ta.length c1, .slice a2 tb.length c2, .slice a3 tc.length c3] 31)) ∧ (w4.alloc (.cells #[.int .i64 (j : Int), .slice a1 ta.length c1, .slice a2 tb.length c2, .slice a3 tc.length c3] 31)).heap.size = w4.heap.size + 1) := ⟨bel_new _ _, size_new _ _⟩
      clear s4 b4 b4'
      have p0 : ∀ o, (w4.alloc o).cell? ⟨w3.heap.size + 1, 0, none⟩ = some (.int .i64 (j : Int)) := fun o => (blk_cell ((Below.heap_alloc w4 o (w3.heap.size + 1) (by have := S4.out.2.2.2.2.2.2; omega)).trans S4.out.2.2.2.2.2.1) 0 rfl).1
      have p1 : ∀ o, (w4.alloc o).cell? ⟨w3.heap.size + 1, 1, none⟩ = some (.slice d1 ta.length f1) := fun o => (blk_cell ((Below.heap_alloc w4 o (w3.heap.size + 1) (by have := S4.out.2.2.2.2.2.2; omega)).trans S4.out.2.2.2.2.2.1) 1 rfl).1
      have p2 : ∀ o, (w4.alloc o).cell? ⟨w3.heap.size + 1, 2, none⟩ = some (.slice d2 tb.length f2) := fun o => (blk_cell ((Below.heap_alloc w4 o (w3.heap.size + 1) (by have := S4.out.2.2.2.2.2.2; omega)).trans S4.out.2.2.2.2.2.1) 2 rfl).1
      have p3 : ∀ o, (w4.alloc o).cell? ⟨w3.heap.size + 1, 3, none⟩ = some (.slice d3 tc.length f3) := fun o => (blk_cell ((Below.heap_alloc w4 o (w3.heap.size + 1) (by have := S4.out.2.2.2.2.2.2; omega)).trans S4.out.2.2.2.2.2.1) 3 rfl).1
      have hjj : ((j : Int) != (j : Int)) = false := by simp
      go_wp2_with fail
      refine (sameSig_same (j : Int) (.slice d1 ta.length f1) (.slice d2 tb.length f2) (.slice d3 tc.length f3) (.slice a1 ta.length c1) (.slice a2 tb.length c2) (.slice a3 tc.length c3) ta tb tc _ (S4.out.1.below T4.out.1).oa.row (S4.out.1.below T4.out.1).ob.row (S4.out.1.below T4.out.1).oc.row (S4.out.2.1.below T4.out.1).oa.row (S4.out.2.1.below T4.out.1).ob.row (S4.out.2.1.below T4.out.1).oc.row (by have := HLN.out; omega) (by have := HLN.out; omega) (by have := HLN.out; omega)).mono ?_
      rintro e w5 ⟨rfl, b5⟩
      have S5 : Hid (Below w.heap.size w w5 ∧ w5.heap[p]? = some (.cells #[.string s, .int .i64 (j : Int)] 45 (0, 0)) ∧ w5.heap[w3.heap.size]? = some (.cells #[.string s, .int .i64 ((j : Int) + 1)] 45 (0, 0)) ∧ w3.heap.size + 1 + 1 ≤ w5.heap.size) := by
        have hp3 := S3.out.2.2.2
        have h4 := S4.out.2.2.2.2.2.2
        rw [T4.out.2] at b5
        have hz := b5.size
        rw [T4.out.2] at hz
        exact ⟨(S4.out.2.2.1.trans (T4.out.1.mono S4.out.2.2.1.size)).trans (b5.mono (by have := S4.out.2.2.1.size; omega)), (b5.block p (by omega)).trans ((Below.heap_alloc w4 _ p (by omega)).trans S4.out.2.2.2.1), (b5.block _ (by omega)).trans ((Below.heap_alloc w4 _ _ (by omega)).trans S4.out.2.2.2.2.1), by omega⟩
      have k0 := (blk_cell S5.out.2.2.1 0 (x := .string s) rfl).1
      have k1 := (blk_cell S5.out.2.2.1 1 (x := .int .i64 ((j : Int) + 1)) rfl).1
      have hj1 : (((j : Int) + 1) != ((j : Int) + 1)) = false := by simp
      have HCK : Hid (ckB s ((j : Int) + 1) = true) := ck_yes (j := j + 1) HS.out (by omega)
      clear b5 p0 p1 p2 p3
      go_wp2_with fail
      refine (implKeyChainOK_any s ((j : Int) + 1) w5).mono ?_
      rintro e w6 ⟨rfl, b6⟩
      rw [HCK.out]
      have S6 : Hid (Below w.heap.size w w6 ∧ w6.heap[p]? = some (.cells #[.string s, .int .i64 (j : Int)] 45 (0, 0)) ∧ w6.heap[w3.heap.size]? = some (.cells #[.string s, .int .i64 ((j : Int) + 1)] 45 (0, 0))) := by
        have hp3 := S3.out.2.2.2
        have h4 := S5.out.2.2.2
        exact ⟨S5.out.1.trans (b6.mono S5.out.1.size), (b6.block p (by omega)).trans S5.out.2.1, (b6.block _ (by omega)).trans S5.out.2.2.1⟩
      clear b6 k0 k1
      have k0 := (blk_cell S6.out.2.2 0 (x := .string s) rfl).1
      have k1 := (blk_cell S6.out.2.2 1 (x := .int .i64 ((j : Int) + 1)) rfl).1
      obtain ⟨z0, zf0⟩ := blk_cell S6.out.2.1 0 (x := .string s) rfl
      obtain ⟨z1, zf1⟩ := blk_cell S6.out.2.1 1 (x := .int .i64 (j : Int)) rfl
      have AF : ((w6.setCell ⟨p, 0, none⟩ (.string s)).setCell ⟨p, 1, none⟩ (.int .i64 ((j : Int) + 1))).heap[p]? = some (.cells #[.string s, .int .i64 ((j : Int) + 1)] 45 (0, 0)) := blk_set (blk_set S6.out.2.1 0 (.string s)) 1 (.int .i64 ((j : Int) + 1))
      have GF : Below w.heap.size w ((w6.setCell ⟨p, 0, none⟩ (.string s)).setCell ⟨p, 1, none⟩ (.int .i64 ((j : Int) + 1))) := Below.setCell (Below.setCell S6.out.1 (p := ⟨p, 0, none⟩) HPB.out.2.2.1 (.string s)) (p := ⟨p, 1, none⟩) HPB.out.2.2.1 (.int .i64 ((j : Int) + 1))
      go_wp2_with fail
      refine ⟨⟨j + 1, by omega, by go_num, ?_, GF⟩, by simp [intOf]; omega⟩
      rw [Int.natCast_add]
      exact AF
    · obtain rfl : j = 8 := by omega
      go_wp2_with fail
      refine (next_used s HS.out wr (GK.out.1.below HPB.out.2.1 GK.out.2) (Nat.lt_of_lt_of_le GK.out.2 HPB.out.2.1.size)).mono ?_
      rintro e w3 ⟨ua, ub, uc, rfl, s3, b3⟩
      obtain ⟨d1, f1, e1⟩ := RowT.form s3.oa.row
      obtain ⟨d2, f2, e2⟩ := RowT.form s3.ob.row
      obtain ⟨d3, f3, e3⟩ := RowT.form s3.oc.row
      change ua = .slice d1 0 f1 at e1
      change ub = .slice d2 0 f2 at e2
      change uc = .slice d3 0 f3 at e3
      subst e1 e2 e3
      have T3 : Hid (Below w3.heap.size w3 ((w3.alloc (.cells #[.string s, .int .i64 8] 45)).alloc (.cells #[.int .i64 0, .slice d1 0 f1, .slice d2 0 f2, .slice d3 0 f3] 31)) ∧ ((w3.alloc (.cells #[.string s, .int .i64 8] 45)).alloc (.cells #[.int .i64 0, .slice d1 0 f1, .slice d2 0 f2, .slice d3 0 f3] 31)).heap.size = w3.heap.size + 1 + 1) := two_new _ _ _
      have S3 : Hid (Below w.heap.size w ((w3.alloc (.cells #[.string s, .int .i64 8] 45)).alloc (.cells #[.int .i64 0, .slice d1 0 f1, .slice d2 0 f2, .slice d3 0 f3] 31)) ∧ ((w3.alloc (.cells #[.string s, .int .i64 8] 45)).alloc (.cells #[.int .i64 0, .slice d1 0 f1, .slice d2 0 f2, .slice d3 0 f3] 31)).heap[p]? = some (.cells #[.string s, .int .i64 8] 45 (0, 0)) ∧ p < w3.heap.size) := by
        have g := HPB.out.2.1.trans (b3.mono HPB.out.2.1.size)
        have hp3 : p < w3.heap.size := Nat.lt_of_lt_of_le HPB.out.2.2.2 b3.size
        exact ⟨g.trans (T3.out.1.mono g.size), two_o _ _ _ hp3 ((b3.block p HPB.out.2.2.2).trans HPB.out.1), hp3⟩
      clear s3 b3 k0 k1
      go_wp2_with fail
      refine (implOneTimeKey_any s 0 _ (GK.out.1.below S3.out.1 GK.out.2) (Nat.lt_of_lt_of_le GK.out.2 S3.out.1.size)).mono ?_
      rintro e w4 ⟨rfl, b4⟩
      have HKF : Hid (kf s 0 = 0) := by
        show _ = _
        unfold kf
        rw [hf_ok HS.out, if_pos rfl]
        rfl
      rw [HKF.out]
      rw [T3.out.2] at b4
      have S4 : Hid (Below w.heap.size w w4 ∧ w4.heap[p]? = some (.cells #[.string s, .int .i64 8] 45 (0, 0)) ∧ w4.heap[w3.heap.size]? = some (.cells #[.string s, .int .i64 8] 45 (0, 0)) ∧ w4.heap[w3.heap.size + 1]? = some (.cells #[.int .i64 0, .slice d1 0 f1, .slice d2 0 f2, .slice d3 0 f3] 31 (0, 0)) ∧ w3.heap.size + 1 + 1 ≤ w4.heap.size) := by
        have hp3 := S3.out.2.2
        exact ⟨S3.out.1.trans (b4.mono (by have := S3.out.1.size; rw [T3.out.2] at this; exact this)), (b4.block p (by omega)).trans S3.out.2.1, (b4.block _ (by omega)).trans (two_a _ _ _ _), (b4.block _ (by omega)).trans (two_b _ _ _ _), by have := b4.size; rw [T3.out.2] at this; exact this⟩
      clear b4
      go_wp2_with fail
      refine (specOneTimeKey_any s 0 w4).mono ?_
      rintro e w5 ⟨rfl, b5⟩
      rw [HKF.out]
      have hp3 := S3.out.2.2
      have h44 := S4.out.2.2.2.2
      have G5 : Hid (Below w.heap.size w w5) := S4.out.1.trans (b5.mono S4.out.1.size)
      have q1 := (b5.block p (by omega)).trans S4.out.2.1
      have q2 := (b5.block w3.heap.size (by omega)).trans S4.out.2.2.1
      have q3 := (b5.block (w3.heap.size + 1) (by omega)).trans S4.out.2.2.2.1
      have k0 := (blk_cell q1 0 (x := .string s) rfl).1
      have k1 := (blk_cell q1 1 (x := .int .i64 8) rfl).1
      have k2 := (blk_cell q2 0 (x := .string s) rfl).1
      have k3 := (blk_cell q2 1 (x := .int .i64 8) rfl).1
      have k4 := (blk_cell q3 1 (x := .slice d1 0 f1) rfl).1
      clear b5 q1 q2 q3
      generalize kOut s 0 = ko
      have hko : (ko.toList == ko.toList) = true := by simp
      have hss : (s.toList == s.toList) = true := by simp
      go_wp2_with fail
      go_ret
      exact ⟨rfl, G5.out⟩

set_option maxRecDepth 100000 in
theorem lifted (os : Os) (started : os.Started) (H : Type) (enc : TypeId × Value → H) :
    ReturnsInHanded {} Tryd.checked os 11 .any (fun w args => (Rows.fnChainSpec.pre enc Tryd.prog Tryd.f11 [] false w args ∧ laidMetH Tryd.prog Rows.fnChainRow.laid w) ∧ sizedMet enc Tryd.prog Tryd.f11 (OpenSpec.ofChange Rows.fnChainSpec) false w args)
      (Rows.fnChainSpec.post enc Tryd.prog Tryd.f11 false true false false) := by
  refine returnsInHanded_of_change_and (C := Tryd.checked) (X := fun w _ => laidMetH Tryd.prog Rows.fnChainRow.laid w) (fun _ _ _ hh h => h.of_heap hh) own started (by kernel_rfl) Tryd.func11
    (ChangeSpec.witness_shaped (enc := enc) (C := Tryd.checked) (os := os) (X := fun w _ => laidMetH Tryd.prog Rows.fnChainRow.laid w) false (World.doorLaid Tryd.prog 400 os) #[.slice none 0 0, .slice none 0 0] 8 rfl (World.shaped_of_RefB (by kernel_rfl) (by kernel_rfl)) (by kernel_rfl) (by kernel_rfl) (by kernel_rfl) (door_met os _)) ?_
  intro W base args ds gs before hval0 hW _ _ hL _
  have hval : ∀ (j : Nat) t v, Tryd.f11.params[j]? = some t → args[j]? = some v → Value.okWide Tryd.prog W .any base t v := hval0
  have hW' := hW
  obtain ⟨p, q, hA0, hV0, rfl, hfz, hnd⟩ := hW
  have hA : DataW.TrodAll enc Tryd.prog W 0 (fun _ => true) true Tryd.f11.params.toList args.toList ds p := hA0
  have hV : DataW.TrodVars enc Tryd.prog W (fun _ => true) ["loop.example/g00292/impl.roundWords"] gs q := hV0
  rw [Tryd.params11] at hA hval
  obtain ⟨v0, vs0, d0, ds0, p0, q0, hargs, rfl, rfl, h0, r0⟩ := trodAll_cons hA
  obtain ⟨v1, vs1, d1, ds1, p1, q1, rfl, rfl, rfl, h1, r1⟩ := trodAll_cons r0
  obtain ⟨rfl, rfl, rfl⟩ := trodAll_nil r1
  obtain rfl : args = #[v0, v1] := by cases args; simp_all
  obtain ⟨_, _, _, _, dv, _, rfl, _⟩ := trodVars_one hV
  have k00 := h0
  have lt0 : ∀ x ∈ p0, x.block < W.heap.size := by obtain ⟨m, hm⟩ := k00; exact DataW.trod_lt m _ _ _ hm
  obtain ⟨xs0, w0⟩ := Op.open_bytes (hval 0 51 v0 rfl rfl) h0 (fun _ => rfl)
  have k10 := h1
  have lt1 : ∀ x ∈ p1, x.block < W.heap.size := by obtain ⟨m, hm⟩ := k10; exact DataW.trod_lt m _ _ _ hm
  obtain ⟨xs1, w1⟩ := Op.open_bytes (hval 1 51 v1 rfl rfl) h1 (fun _ => rfl)
  clear hA0 hval0 hV0
  have hT := Hl.tab_of hL
  refine (walk v0 xs0 w0 v1 xs1 w1 hT.1 hT.2).mono fun e W' ⟨he, bel⟩ => ?_
  subst he
  exact ⟨_, rfl, _, _, _, [], _, q, hW', trodAll_mk1 (shut_bool Tryd.underlying4 _), (trodAll_cons_mk (Below.trod laidOut (by kernel_rfl) (of_decide_eq_true (by kernel_rfl)) k00 bel lt0) (trodAll_cons_mk (Below.trod laidOut (by kernel_rfl) (of_decide_eq_true (by kernel_rfl)) k10 bel lt1) trodAll_mk0)), Below.trodVars laidOut bel rowed hV, bel.frame _, fun h => by cases h⟩

theorem said : Rows.FnChainSaid :=
  OpenClaim.holds_of_wide 11 Tryd.f11 rfl rfl rfl rfl rfl rfl rfl ⟨rfl, rfl, rfl, rfl, rfl⟩ rfl rfl rfl rfl rfl (by kernel_rfl) Tryd.func11 (by kernel_rfl)
    (of_decide_eq_true (by kernel_rfl)) (by unfold Func.isWrapper; first | (rw [if_pos (by decide +kernel)]; kernel_rfl) | (rw [if_neg (by decide +kernel)]; exact ⟨rfl, rfl⟩))
    (fun os started H enc _ => lifted os started H enc)

/-- No parameter wants a stand-in; the program's own looks are off. -/
theorem plain (f : FuncId) (fn : Func) (hf : Tryd.pinned.checked.prog.funcNamed "loop.example/g00292/laws.FnChain" = some f) (hfn : Tryd.pinned.checked.prog.funcs[f]? = some fn) :
    false = Tryd.pinned.checked.prog.looks [] ∧ ∀ (j : Nat) t, fn.params[j]? = some t → Tryd.pinned.checked.prog.wantsStandIn t = false := by
  obtain rfl : f = 11 := Option.some.inj ((show Tryd.prog.funcNamed "loop.example/g00292/laws.FnChain" = some 11 by kernel_rfl).symm.trans hf) |>.symm
  obtain rfl : fn = Tryd.f11 := (Option.some.inj (Tryd.func11.symm.trans hfn)).symm
  refine ⟨by kernel_rfl, fun j t ht => ?_⟩
  rw [Tryd.params11] at ht
  have hm := Array.mem_of_getElem? ht
  have hl : t ∈ [51, 51] := by simpa using hm
  have hall : ∀ x ∈ [51, 51], Tryd.prog.wantsStandIn x = false := by
    intro x hx
    simp only [List.mem_cons, List.not_mem_nil, or_false] at hx
    rcases hx with rfl | rfl <;> kernel_rfl
  exact hall t hl
end Go.Proofs.YtjggfholjdplbaaDoor.fnChain
namespace Go.Proofs.YtjggfholjdplbaaDoor
/-- THE STATEMENT: the card. -/
theorem fnChain_holds : Rows.FnChainCardSaid :=
  Claim7.holds_tied_plain_at .later [] _ _ _ _ fnChain.said (fun _ h => by cases h) (by kernel_rfl) (fun _ h => by cases h) fnChain_row_tie rfl ⟨rfl, rfl⟩ (by kernel_rfl) rfl fnChain.plain (by kernel_rfl)
end Go.Proofs.YtjggfholjdplbaaDoor
