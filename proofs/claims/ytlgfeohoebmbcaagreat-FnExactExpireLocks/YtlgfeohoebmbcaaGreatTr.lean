/- TableOK of the program. -/
import Derived.Test.YtlgfeohoebmbcaaGreatTp2
namespace Go.Proofs.YtlgfeohoebmbcaaGreat.Tp
open Go.RowKit Go.Proofs.YtlgfeohoebmbcaaGreat.Sl Go.Proofs.YtlgfeohoebmbcaaGreat.Ap Go.Proofs.YtlgfeohoebmbcaaGreat.Tx Go.Proofs.YtlgfeohoebmbcaaGreat.Tb Go.Proofs.YtlgfeohoebmbcaaGreat.Tw Go.Proofs.YtlgfeohoebmbcaaGreat.Rq

theorem with_any (x a b : Int) (w : World) : Calls Tryz.prog 82 #[.int .i64 x, .int .i64 a, .int .i64 b] w fun e w' => e = .returned (.bool (inB x a b)) ∧ w = w' := (within_any x a b w).mono fun _ _ ⟨h1, h2⟩ => ⟨h1, h2.symm⟩
set_option maxRecDepth 100000 in
set_option maxHeartbeats 1600000 in
theorem implTableOK_any (tm nx : Int) (vl vs : Value) (ls : List Lk) (ss : List Sn) (w : World) (hl : RowL w vl ls) (hs : RowS w vs ss) (hw : ∀ x ∈ ls, x.n.size ≤ 1048576 ∧ x.ws.length ≤ 1048576) (hy1 : ls.length ≤ 1048576) (hy2 : ss.length ≤ 1048576) :
    Calls Tryz.prog 72 #[tabV tm nx vl vs] w fun e w' => e = .returned (.bool (bOf (TOK ⟨tm, nx, ls, ss⟩))) ∧ Below w.heap.size w w' := by
  obtain ⟨la, lc, rfl⟩ := RowG.slice hl
  obtain ⟨sa, sc, rfl⟩ := RowG.slice hs
  have HTK : Hid (TOK ⟨tm, nx, ls, ss⟩ ↔ (inB tm 0 1000000000 = true ∧ inB nx 1 1000000 = true ∧ ls.length ≤ 4 ∧ LsOK nx ls ∧ ss.length ≤ 6 ∧ SsOK ss)) := Iff.rfl
  have HWZ : Hid (∀ x ∈ ls, x.n.size ≤ 1048576 ∧ x.ws.length ≤ 1048576) := hw
  unfold tabV
  have HX : Hid (∀ W, Below (w.alloc (.cells #[.int .i64 tm, .int .i64 nx, .slice la ls.length lc, .slice sa ss.length sc] 30)).heap.size (w.alloc (.cells #[.int .i64 tm, .int .i64 nx, .slice la ls.length lc, .slice sa ss.length sc] 30)) W → (W.cell? ⟨w.heap.size, 0, none⟩ = some (.int .i64 tm) ∧ W.cell? ⟨w.heap.size, 1, none⟩ = some (.int .i64 nx) ∧ W.cell? ⟨w.heap.size, 2, none⟩ = some (.slice la ls.length lc) ∧ W.cell? ⟨w.heap.size, 3, none⟩ = some (.slice sa ss.length sc)) ∧ RowL W (.slice la ls.length lc) ls ∧ RowS W (.slice sa ss.length sc) ss ∧ Below w.heap.size w W) := fun W hW => by
    have h1 := (hW.block w.heap.size (by simp)).trans (heap_alloc_new w _)
    exact ⟨⟨(blk_cell h1 0 rfl).1, (blk_cell h1 1 rfl).1, (blk_cell h1 2 rfl).1, (blk_cell h1 3 rfl).1⟩, (hl.below (bel_new _ _)).below hW, (hs.below (bel_new _ _)).below hW, (bel_new w _).trans (hW.mono (by simp))⟩
  clear hl hs hw
  generalize HTO : bOf (TOK ⟨tm, nx, ls, ss⟩) = tok
  have HT : Hid (bOf (TOK ⟨tm, nx, ls, ss⟩) = tok) := HTO
  clear HTO
  go_enter Tryz.func72, Tryz.ntmps72
  go_upto_region 1 with fail
  generalize w.alloc (.cells #[.int .i64 tm, .int .i64 nx, .slice la ls.length lc, .slice sa ss.length sc] 30) = wb at HX ⊢
  obtain ⟨⟨x0, x1, x2, x3⟩, _, _, hb0⟩ := HX.out wb (Below.refl _ _)
  have HB0 : Hid (Below w.heap.size w wb) := hb0
  clear hb0
  cases h1 : inB tm 0 1000000000 with
  | false =>
    have HF : Hid (tok = false) := HT.out.symm.trans (bOf_false fun h => by have := (HTK.out.1 h).1; rw [h1] at this; cases this)
    go_wp2_with (go_at_call 82; refine (with_any _ _ _ _).mono ?_; rintro e w1 ⟨rfl, rfl⟩; rw [h1])
    go_ret
    exact ⟨ret_bool HF.out.symm, HB0.out⟩
  | true =>
  cases h2 : inB nx 1 1000000 with
  | false =>
    have HF : Hid (tok = false) := HT.out.symm.trans (bOf_false fun h => by have := (HTK.out.1 h).2.1; rw [h2] at this; cases this)
    go_wp2_with (go_at_call 82; refine (with_any _ _ _ _).mono ?_; rintro e w1 ⟨rfl, rfl⟩; first | rw [h1] | rw [h2])
    go_ret
    exact ⟨ret_bool HF.out.symm, HB0.out⟩
  | true =>
  by_cases h3 : ls.length ≤ 4
  · have h3' : (ls.length : Int) ≤ 4 := by omega
    have hnx := inB_le h2
    have HLO : Hid (Calls Tryz.prog 96 #[.slice la ls.length lc, .int .i64 nx] wb fun e w' => e = .returned (.bool (bOf (LsOK nx ls))) ∧ w'.cell? ⟨w.heap.size, 3, none⟩ = some (.slice sa ss.length sc) ∧ Hid (RowS w' (.slice sa ss.length sc) ss ∧ Below w.heap.size w w')) := (locksOK_any _ ls nx wb (HX.out wb (Below.refl _ _)).2.1 hy1 HWZ.out hnx.1 hnx.2).mono fun e w' ⟨he, hb⟩ => by
      obtain ⟨⟨_, _, _, q3⟩, _, q5, q6⟩ := HX.out w' hb
      exact ⟨he, q3, q5, q6⟩
    cases h4 : bOf (LsOK nx ls) with
    | false =>
      have HF : Hid (tok = false) := HT.out.symm.trans (bOf_false fun h => by rw [bOf_true (HTK.out.1 h).2.2.2.1] at h4; cases h4)
      rw [h4] at HLO
      clear h4
      go_wp2_with (first | (go_at_call 82; refine (with_any _ _ _ _).mono ?_; rintro e w1 ⟨rfl, rfl⟩; first | rw [h1] | rw [h2]) | (go_at_call 96; refine HLO.out.mono ?_; rintro e w2 ⟨rfl, q3, Q2⟩; clear x0 x1 x2 x3))
      go_ret
      exact ⟨ret_bool HF.out.symm, Q2.out.2⟩
    | true =>
      have HLS : Hid (LsOK nx ls) := (show LsOK nx ls from Classical.byContradiction fun hn => by rw [bOf_false hn] at h4; cases h4)
      rw [h4] at HLO
      clear h4
      by_cases h5 : ss.length ≤ 6
      · have h5' : (ss.length : Int) ≤ 6 := by omega
        have HF : Hid (tok = bOf (SsOK ss)) := by
          show _ = _
          rw [← HT.out]
          by_cases hh : SsOK ss
          · rw [bOf_true hh, bOf_true (HTK.out.2 ⟨h1, h2, h3, HLS.out, h5, hh⟩)]
          · rw [bOf_false hh, bOf_false fun h => hh (HTK.out.1 h).2.2.2.2.2]
        have HSO : Hid (∀ w2, RowS w2 (.slice sa ss.length sc) ss → Below w.heap.size w w2 → Calls Tryz.prog 97 #[.slice sa ss.length sc] w2 fun e w' => e = .returned (.bool tok) ∧ Below w.heap.size w w') := fun w2 hr hb => (seensOK_any _ ss w2 hr hy2).mono fun e w' ⟨he, hb2⟩ => ⟨by rw [HF.out]; exact he, hb.trans (hb2.mono hb.size)⟩
        go_wp2_with (first | (go_at_call 82; refine (with_any _ _ _ _).mono ?_; rintro e w1 ⟨rfl, rfl⟩; first | rw [h1] | rw [h2]) | (go_at_call 96; refine HLO.out.mono ?_; rintro e w2 ⟨rfl, q3, Q2⟩; clear x0 x1 x2 x3) | (go_at_call 97; refine (HSO.out _ Q2.out.1 Q2.out.2).mono ?_; rintro e w3 ⟨rfl, g3⟩))
        go_ret
        exact ⟨rfl, g3⟩
      · have h5' : decide ((ss.length : Int) ≤ 6) = false := decide_eq_false (by omega)
        have h5'' : ¬ (ss.length : Int) ≤ 6 := by omega
        have HF : Hid (tok = false) := HT.out.symm.trans (bOf_false fun h => h5 (HTK.out.1 h).2.2.2.2.1)
        go_wp2_with (first | (go_at_call 82; refine (with_any _ _ _ _).mono ?_; rintro e w1 ⟨rfl, rfl⟩; first | rw [h1] | rw [h2]) | (go_at_call 96; refine HLO.out.mono ?_; rintro e w2 ⟨rfl, q3, Q2⟩; clear x0 x1 x2 x3))
        go_ret
        exact ⟨ret_bool HF.out.symm, Q2.out.2⟩
  · have h3' : decide ((ls.length : Int) ≤ 4) = false := decide_eq_false (by omega)
    have h3'' : ¬ (ls.length : Int) ≤ 4 := by omega
    have HF : Hid (tok = false) := HT.out.symm.trans (bOf_false fun h => h3 (HTK.out.1 h).2.2.1)
    go_wp2_with (go_at_call 82; refine (with_any _ _ _ _).mono ?_; rintro e w1 ⟨rfl, rfl⟩; first | rw [h1] | rw [h2])
    go_ret
    exact ⟨ret_bool HF.out.symm, HB0.out⟩
end Go.Proofs.YtlgfeohoebmbcaaGreat.Tp
