/- The laws' helpers over checkpoints. -/
import Derived.Test.YtnebohdlndiejaaDoorGt
import Derived.Test.YtnebohdlndiejaaDoorRm
import Derived.Deep.RegionHeldLaw
import Derived.Deep.Cut
namespace Go.Proofs.YtnebohdlndiejaaDoor.Hs
open Go.RowKit Go.Proofs.YtnebohdlndiejaaDoor.Sl Go.Proofs.YtnebohdlndiejaaDoor.Rg Go.Proofs.YtnebohdlndiejaaDoor.Gt

/-- A checkpoint as a value. -/
def stV (sq sz : Int) (rt : ByteArray) (vr : Value) : Value := .agg #[.int .i64 sq, .int .i64 sz, .string rt, vr]
theorem e_of_block {w w' : World} {g o : Nat} {x : Vo} (h : w'.heap[g]? = w.heap[g]?) (hx : E1 w g o x) : E1 w' g o x := by
  obtain ⟨h0, h1⟩ := hx
  exact ⟨(World.cell?_of_block (a := ⟨g, _, none⟩) h).trans h0, (World.cell?_of_block (a := ⟨g, _, none⟩) h).trans h1⟩
set_option maxRecDepth 100000 in
set_option maxHeartbeats 1600000 in
theorem to_any (sq sz : Int) (rt : ByteArray) (vr : Value) (rs : List Vo) (w : World) (h : Row w vr rs) (hl : rs.length ≤ 1048576) :
    Calls Tryd.prog 6 #[stV sq sz rt vr] w fun e w' => ∃ g, e = .returned (stV sq sz rt (.slice (some ⟨g, 0, none⟩) rs.length rs.length)) ∧ w.heap.size ≤ g ∧ g < w'.heap.size ∧ (∀ i x, rs[i]? = some x → E1 w' g (i * 2) x) ∧ Below w.heap.size w w' ∧ Wr w' g (rs.length * 2) := by
  have HR : Hid (Row w vr rs) := h
  clear h
  unfold stV
  have HB : Hid (∀ o0 o1 o2, Below w.heap.size w (((w.alloc o0).alloc o1).alloc o2)) := fun o0 o1 o2 => (three (Below.refl _ _)).2.2.2.2
  have HS : Hid (∀ o0 o1 o2, (((w.alloc o0).alloc o1).alloc o2).heap.size = w.heap.size + 1 + 1 + 1) := fun o0 o1 o2 => by rw [Rg.size_new, Rg.size_new, Rg.size_new]
  go_enter Tryd.func6, Tryd.ntmps6
  go_wp2_with fail
  refine (toS_any vr rs _ (HR.out.below (HB.out _ _ _)) hl).mono ?_
  rintro e w3 ⟨g, rfl, hg0, hg1, hr, b3, hwr⟩
  obtain ⟨k0, k1, k2, kS, kB⟩ := three b3
  have hgS : w.heap.size + 1 + 1 + 1 ≤ g := by rw [HS.out] at hg0; exact hg0
  have K13 : Hid (w3.heap[w.heap.size + 1]? = some (.cells #[.int .i64 0, .int .i64 0, .string ⟨#[]⟩, .slice none 0 0] 29 (0, 0))) := k1
  have K23 : Hid (w3.heap[w.heap.size + 1 + 1]? = some (.cells #[.int .i64 sq, .int .i64 sz, .string rt, .slice none 0 0] 29 (0, 0))) := k2
  have KB3 : Hid (Below w.heap.size w w3) := kB
  have KR : Hid (g < w3.heap.size ∧ (∀ i y, rs[i]? = some y → E1 w3 g (i * 2) y) ∧ Wr w3 g (rs.length * 2)) := ⟨hg1, hr, hwr⟩
  clear hg0 hg1 hr b3 hwr k0 k1 k2 kS kB HB HS
  obtain ⟨s0, t0⟩ := blk_cell K23.out 3 (x := .slice none 0 0) rfl
  have B2 : Hid ((w3.setCell ⟨w.heap.size + 1 + 1, 3, none⟩ (.slice (some ⟨g, 0, none⟩) rs.length rs.length)).heap[w.heap.size + 1 + 1]? = some (.cells #[.int .i64 sq, .int .i64 sz, .string rt, .slice (some ⟨g, 0, none⟩) rs.length rs.length] 29 (0, 0))) := blk_set K23.out 3 (.slice (some ⟨g, 0, none⟩) rs.length rs.length)
  have A2 : Hid ((w3.setCell ⟨w.heap.size + 1 + 1, 3, none⟩ (.slice (some ⟨g, 0, none⟩) rs.length rs.length)).heap[w.heap.size + 1]? = some (.cells #[.int .i64 0, .int .i64 0, .string ⟨#[]⟩, .slice none 0 0] 29 (0, 0))) := (blk_far (by omega) 3 (.slice (some ⟨g, 0, none⟩) rs.length rs.length)).trans K13.out
  have G2 : Hid (Below w.heap.size w (w3.setCell ⟨w.heap.size + 1 + 1, 3, none⟩ (.slice (some ⟨g, 0, none⟩) rs.length rs.length))) := Below.setCell KB3.out (p := ⟨w.heap.size + 1 + 1, 3, none⟩) (by show _ ≤ w.heap.size + 1 + 1; omega) (.slice (some ⟨g, 0, none⟩) rs.length rs.length)
  have R2 : Hid (g < (w3.setCell ⟨w.heap.size + 1 + 1, 3, none⟩ (.slice (some ⟨g, 0, none⟩) rs.length rs.length)).heap.size ∧ (∀ i y, rs[i]? = some y → E1 (w3.setCell ⟨w.heap.size + 1 + 1, 3, none⟩ (.slice (some ⟨g, 0, none⟩) rs.length rs.length)) g (i * 2) y) ∧ Wr (w3.setCell ⟨w.heap.size + 1 + 1, 3, none⟩ (.slice (some ⟨g, 0, none⟩) rs.length rs.length)) g (rs.length * 2)) := ⟨by simpa using KR.out.1, fun i y hy => e_of_block (blk_far (by omega) 3 (.slice (some ⟨g, 0, none⟩) rs.length rs.length)) (KR.out.2.1 i y hy), KR.out.2.2.set _ _ _⟩
  clear K13 K23 KB3 KR
  go_upto_region 6 with fail
  generalize (w3.setCell ⟨w.heap.size + 1 + 1, 3, none⟩ (.slice (some ⟨g, 0, none⟩) rs.length rs.length)) = w9 at B2 A2 G2 R2 ⊢
  have p0 := (blk_cell B2.out 0 (x := .int .i64 sq) rfl).1
  have p1 := (blk_cell B2.out 1 (x := .int .i64 sz) rfl).1
  have p2 := (blk_cell B2.out 2 (x := .string rt) rfl).1
  have p3 := (blk_cell B2.out 3 (x := .slice (some ⟨g, 0, none⟩) rs.length rs.length) rfl).1
  obtain ⟨m0, n0⟩ := blk_cell A2.out 0 (x := .int .i64 0) rfl
  obtain ⟨m1, n1⟩ := blk_cell A2.out 1 (x := .int .i64 0) rfl
  obtain ⟨m2, n2⟩ := blk_cell A2.out 2 (x := .string ⟨#[]⟩) rfl
  obtain ⟨m3, n3⟩ := blk_cell A2.out 3 (x := .slice none 0 0) rfl
  have AF : ((((w9.setCell ⟨w.heap.size + 1, 0, none⟩ (.int .i64 sq)).setCell ⟨w.heap.size + 1, 1, none⟩ (.int .i64 sz)).setCell ⟨w.heap.size + 1, 2, none⟩ (.string rt)).setCell ⟨w.heap.size + 1, 3, none⟩ (.slice (some ⟨g, 0, none⟩) rs.length rs.length)).heap[w.heap.size + 1]? = some (.cells #[.int .i64 sq, .int .i64 sz, .string rt, .slice (some ⟨g, 0, none⟩) rs.length rs.length] 29 (0, 0)) := (blk_set (blk_set (blk_set (blk_set A2.out 0 (.int .i64 sq)) 1 (.int .i64 sz)) 2 (.string rt)) 3 (.slice (some ⟨g, 0, none⟩) rs.length rs.length))
  have FF : ((((w9.setCell ⟨w.heap.size + 1, 0, none⟩ (.int .i64 sq)).setCell ⟨w.heap.size + 1, 1, none⟩ (.int .i64 sz)).setCell ⟨w.heap.size + 1, 2, none⟩ (.string rt)).setCell ⟨w.heap.size + 1, 3, none⟩ (.slice (some ⟨g, 0, none⟩) rs.length rs.length)).heap[g]? = w9.heap[g]? := ((blk_far (by omega) 3 (.slice (some ⟨g, 0, none⟩) rs.length rs.length)).trans ((blk_far (by omega) 2 (.string rt)).trans ((blk_far (by omega) 1 (.int .i64 sz)).trans ((blk_far (by omega) 0 (.int .i64 sq)).trans (Eq.refl w9.heap[g]?)))))
  have RF : Hid (g < ((((w9.setCell ⟨w.heap.size + 1, 0, none⟩ (.int .i64 sq)).setCell ⟨w.heap.size + 1, 1, none⟩ (.int .i64 sz)).setCell ⟨w.heap.size + 1, 2, none⟩ (.string rt)).setCell ⟨w.heap.size + 1, 3, none⟩ (.slice (some ⟨g, 0, none⟩) rs.length rs.length)).heap.size ∧ (∀ i y, rs[i]? = some y → E1 ((((w9.setCell ⟨w.heap.size + 1, 0, none⟩ (.int .i64 sq)).setCell ⟨w.heap.size + 1, 1, none⟩ (.int .i64 sz)).setCell ⟨w.heap.size + 1, 2, none⟩ (.string rt)).setCell ⟨w.heap.size + 1, 3, none⟩ (.slice (some ⟨g, 0, none⟩) rs.length rs.length)) g (i * 2) y) ∧ Wr ((((w9.setCell ⟨w.heap.size + 1, 0, none⟩ (.int .i64 sq)).setCell ⟨w.heap.size + 1, 1, none⟩ (.int .i64 sz)).setCell ⟨w.heap.size + 1, 2, none⟩ (.string rt)).setCell ⟨w.heap.size + 1, 3, none⟩ (.slice (some ⟨g, 0, none⟩) rs.length rs.length)) g (rs.length * 2) ∧ Below w.heap.size w ((((w9.setCell ⟨w.heap.size + 1, 0, none⟩ (.int .i64 sq)).setCell ⟨w.heap.size + 1, 1, none⟩ (.int .i64 sz)).setCell ⟨w.heap.size + 1, 2, none⟩ (.string rt)).setCell ⟨w.heap.size + 1, 3, none⟩ (.slice (some ⟨g, 0, none⟩) rs.length rs.length))) := ⟨by simpa using R2.out.1, fun i y hy => e_of_block FF (R2.out.2.1 i y hy), ((((R2.out.2.2.set _ _ _).set _ _ _).set _ _ _).set _ _ _), (Below.setCell (Below.setCell (Below.setCell (Below.setCell G2.out (p := ⟨w.heap.size + 1, 0, none⟩) (by show _ ≤ w.heap.size + 1; omega) (.int .i64 sq)) (p := ⟨w.heap.size + 1, 1, none⟩) (by show _ ≤ w.heap.size + 1; omega) (.int .i64 sz)) (p := ⟨w.heap.size + 1, 2, none⟩) (by show _ ≤ w.heap.size + 1; omega) (.string rt)) (p := ⟨w.heap.size + 1, 3, none⟩) (by show _ ≤ w.heap.size + 1; omega) (.slice (some ⟨g, 0, none⟩) rs.length rs.length))⟩
  clear FF R2 G2
  go_wp2_with fail
  generalize ((((w9.setCell ⟨w.heap.size + 1, 0, none⟩ (.int .i64 sq)).setCell ⟨w.heap.size + 1, 1, none⟩ (.int .i64 sz)).setCell ⟨w.heap.size + 1, 2, none⟩ (.string rt)).setCell ⟨w.heap.size + 1, 3, none⟩ (.slice (some ⟨g, 0, none⟩) rs.length rs.length)) = wf at AF RF ⊢
  have d0 := (blk_cell AF 0 (x := .int .i64 sq) rfl).1
  have d1 := (blk_cell AF 1 (x := .int .i64 sz) rfl).1
  have d2 := (blk_cell AF 2 (x := .string rt) rfl).1
  have d3 := (blk_cell AF 3 (x := .slice (some ⟨g, 0, none⟩) rs.length rs.length) rfl).1
  exact bodyPost_ret (v := stV sq sz rt (.slice (some ⟨g, 0, none⟩) rs.length rs.length)) (by simp [stV, results, Tryd.results6, go_sem, d0, d1, d2, d3]) rfl ⟨g, rfl, by omega, RF.out.1, RF.out.2.1, RF.out.2.2.2, RF.out.2.2.1⟩
set_option maxRecDepth 100000 in
set_option maxHeartbeats 1600000 in
theorem sz_any (sq sz : Int) (rt : ByteArray) (l : Nat) (vr : Value) (rs : List Vo) (w : World) (h : Row w vr rs) (hm : ∀ x ∈ rs, Tz maxLen x) (hz : rs.length ≤ maxLen) (hn : rt.size ≤ maxLen) (hl : l ≤ 1048576) :
    Calls Tryd.prog 4 #[stV sq sz rt vr, .int .i64 l] w fun e w' => (∃ r : Int, e = .returned (.int .i64 r) ∧ (r = -1 ∨ ∃ q : Nat, r = q ∧ q ≤ 1048576 ∧ rt.size ≤ 1048576 ∧ rs.length ≤ 1048576 ∧ ∀ x ∈ rs, Tz 1048576 x)) ∧ Below w.heap.size w w' := by
  have HR : Hid (Row w vr rs ∧ (∀ x ∈ rs, Tz maxLen x) ∧ rs.length ≤ maxLen) := ⟨h, hm, hz⟩
  clear h hm hz
  unfold stV
  have hn2 : rt.size ≤ 9223372036854775807 := by unfold maxLen at hn; omega
  clear hn
  have HB1 : Hid (Below w.heap.size w (w.alloc (.cells #[.int .i64 sq, .int .i64 sz, .string rt, vr] 24))) := bel_new _ _
  by_cases hb : (l : Int) < (rt.size : Int)
  · have hb' : (l : Int) - (rt.size : Int) < 0 := by omega
    go_enter Tryd.func4, Tryd.ntmps4
    go_wp2_with fail
    go_ret
    exact ⟨⟨_, rfl, .inl rfl⟩, HB1.out⟩
  · obtain ⟨q, HQ⟩ : ∃ q : Nat, (l : Int) - (rt.size : Int) = q ∧ q ≤ 1048576 := ⟨l - rt.size, by omega, by omega⟩
    have hq0 : ¬ (q : Int) < 0 := by omega
    have hq1 : ¬ (l : Int) - (rt.size : Int) < 0 := by omega
    have HC := szS_any vr rs q (w.alloc (.cells #[.int .i64 sq, .int .i64 sz, .string rt, vr] 24)) (HR.out.1.below HB1.out) HR.out.2.1 HR.out.2.2 HQ.2
    rw [← HQ.1] at HC
    clear HQ
    go_enter Tryd.func4, Tryd.ntmps4
    go_wp2_with fail
    refine HC.mono ?_
    rintro e w2 ⟨⟨r, rfl, hr⟩, b2⟩
    have HB2 : Hid (Below w.heap.size w w2) := HB1.out.trans (b2.mono HB1.out.size)
    clear b2 HC
    rcases hr with rfl | ⟨p, rfl, hp1, hp2, hp3⟩
    · go_wp2_with fail
      go_ret
      exact ⟨⟨_, rfl, .inl rfl⟩, HB2.out⟩
    · have hp0 : ¬ (p : Int) < 0 := by omega
      have HP : Hid (∀ x ∈ rs, Tz 1048576 x) := hp3
      clear hp3
      go_wp2_with fail
      go_ret
      exact ⟨⟨_, rfl, .inr ⟨p, rfl, hp1, by omega, hp2, HP.out⟩⟩, HB2.out⟩
set_option maxRecDepth 100000 in
set_option maxHeartbeats 1600000 in
theorem eq_same (sq sz : Int) (rt : ByteArray) (vr ur : Value) (rs : List Vo) (w : World) (h : Row w vr rs) (g : Row w ur rs) (hl : rs.length ≤ 1048576) :
    Calls Tryd.prog 8 #[stV sq sz rt vr, stV sq sz rt ur] w fun e w' => e = .returned (.bool true) ∧ Below w.heap.size w w' := by
  have HR : Hid (Row w vr rs ∧ Row w ur rs) := ⟨h, g⟩
  clear h g
  unfold stV
  have hne : (rt.toList != rt.toList) = false := by simp
  have hne2 : (rt.toList == rt.toList) = true := by simp
  have hne3 : (sq != sq) = false := by simp
  have hne4 : (sz != sz) = false := by simp
  have HB1 : Hid (Below w.heap.size w ((w.alloc (.cells #[.int .i64 sq, .int .i64 sz, .string rt, vr] 29)).alloc (.cells #[.int .i64 sq, .int .i64 sz, .string rt, ur] 29))) := ((Below.refl _ _).alloc (Nat.le_refl _) _).alloc (by simp) _
  go_enter Tryd.func8, Tryd.ntmps8
  go_wp2_with fail
  refine (eqS_same vr ur rs _ (HR.out.1.below HB1.out) (HR.out.2.below HB1.out) hl).mono ?_
  rintro e w2 ⟨rfl, b2⟩
  have HB2 : Hid (Below w.heap.size w w2) := HB1.out.trans (b2.mono HB1.out.size)
  clear b2
  go_wp2_with fail
  go_ret
  exact ⟨rfl, HB2.out⟩
end Go.Proofs.YtnebohdlndiejaaDoor.Hs
namespace Go.Proofs.YtnebohdlndiejaaDoor.Op
open Go.ChangeShapes Go.WideShapes Go.ChangeAt Go.RowKit Go.Deep Go.Proofs.YtnebohdlndiejaaDoor.Gt Go.Proofs.YtnebohdlndiejaaDoor.Hs
set_option maxRecDepth 100000 in
theorem open_stable {H : Type} {enc : TypeId × Value → H} {w : World} {base : Nat} {spare : Nat → Bool} {held : Bool} {r : Reach} {b0 : Nat} {v : Value} {d : DataW H} {p : List MemPlace}
    (hv : Value.okWide Tryd.prog w r b0 24 v) (h : DataW.Trod enc Tryd.prog w base spare held 24 v d p) :
    ∃ (sq sz : Int) (rt : ByteArray) (vr : Value) (rs : List Vo), v = stV sq sz rt vr ∧ Row w vr rs ∧ rs.length ≤ maxLen ∧ (∀ x ∈ rs, Tz maxLen x) ∧ rt.size ≤ maxLen := by
  have k1 : Tryd.prog.cellsOf 3 = 1 := by kernel_rfl
  have k2 : Tryd.prog.cellsOf 9 = 1 := by kernel_rfl
  have k5 : Tryd.prog.cellsOf 22 = 1 := by kernel_rfl
  obtain ⟨cs, rfl, hsz⟩ := okWide_struct Tryd.underlying24 hv
  obtain ⟨fuel, hf⟩ := h
  obtain ⟨xs, n, _, _, hl, hlen, hfs⟩ := DataW.trod_struct Tryd.underlying24 hf
  have hsz2 : cs.size = 4 := hsz.trans (by kernel_rfl)
  obtain ⟨cl⟩ := cs
  match cl, hsz2 with
  | [c0, c1, c2, c3], _ =>
    match xs, hlen with
    | [y0, y1, y2, y3], _ =>
      have g0 := hfs 0 _ rfl
      have g1 := hfs 1 _ rfl
      have g2 := hfs 2 _ rfl
      have g3 := hfs 3 _ rfl
      simp [Value.cells, k1, k2, k5] at g0 g1 g2 g3
      obtain ⟨z0, q0, _, _⟩ := DataW.trod_int Tryd.underlying3 g0
      obtain ⟨z1, q1, _, _⟩ := DataW.trod_int Tryd.underlying3 g1
      obtain ⟨z2, q2, _, m2⟩ := DataW.trod_string Tryd.underlying9 g2
      obtain ⟨v6, rs, q6, r6, l6, t6⟩ := openGt g3
      simp at q0 q1 q2 q6
      subst q0 q1 q2 q6
      exact ⟨z0, z1, z2, _, rs, rfl, r6, l6, t6, m2⟩
end Go.Proofs.YtnebohdlndiejaaDoor.Op
