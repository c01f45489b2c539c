/- The laws' copies of tables, in new memory that may be written: the table. -/
import Derived.Test.YtlgfeohoebmbcaaGreatMv
namespace Go.Proofs.YtlgfeohoebmbcaaGreat.Mw
open Go.RowKit Go.Proofs.YtlgfeohoebmbcaaGreat.Sl Go.Proofs.YtlgfeohoebmbcaaGreat.By Go.Proofs.YtlgfeohoebmbcaaGreat.Ap Go.Proofs.YtlgfeohoebmbcaaGreat.Tx Go.Proofs.YtlgfeohoebmbcaaGreat.Tb Go.Proofs.YtlgfeohoebmbcaaGreat.Tw

theorem WrL.far {B C : Nat} {w : World} {g p : Nat} {ns : List Nat} (h : WrL B C w g ns) (hp : p ≠ g) (j : Nat) (x : Value) : WrL B C (w.setCell ⟨p, j, none⟩ x) g ns := h.kept hp (fun _ _ h => h.set _ _ _) (fun _ _ hk => blk_far hk j x)
theorem WrL.mono {B C B' C' : Nat} {w : World} {g : Nat} {ns : List Nat} (h : WrL B C w g ns) (hB : B' ≤ B) (hC : C ≤ C') : WrL B' C' w g ns := ⟨h.1, fun j m hj => by
  obtain ⟨q, h1, h2, h3, h4, h5⟩ := h.2 j m hj
  exact ⟨q, h1, Nat.le_trans hB h2, Nat.lt_of_lt_of_le h3 hC, h4, h5⟩⟩
set_option maxRecDepth 100000 in
set_option maxHeartbeats 800000 in
theorem toTableW_any (tm nx : Int) (vl vs : Value) (ls : List Lk) (ss : List Sn) (w : World) (hl : RowL w vl ls) (hs : RowS w vs ss) (h1 : ls.length ≤ 1048576) (h2 : ss.length ≤ 1048576) (h3 : ∀ x ∈ ls, x.ws.length ≤ 1048576) :
    Calls Tryz.prog 9 #[tabV tm nx vl vs] w fun e w' => ∃ gl gs, e = .returned (tabV tm nx (.slice (some ⟨gl, 0, none⟩) ls.length ls.length) (.slice (some ⟨gs, 0, none⟩) ss.length ss.length)) ∧ RowL w' (.slice (some ⟨gl, 0, none⟩) ls.length ls.length) ls ∧ RowS w' (.slice (some ⟨gs, 0, none⟩) ss.length ss.length) ss ∧ TabW w.heap.size w'.heap.size w' gl gs ls ss ∧ Below w.heap.size w w' := by
  have HL : Hid (RowL w vl ls ∧ ∀ x ∈ ls, x.ws.length ≤ 1048576) := ⟨hl, h3⟩
  have HSS : Hid (RowS w vs ss) := hs
  clear hl hs h3
  unfold tabV
  have HB : Hid (∀ o0 o1 o2, Below w.heap.size w (((w.alloc o0).alloc o1).alloc o2)) := fun o0 o1 o2 => (three (Below.refl _ _)).2.2.2.2
  have HS : Hid (∀ o0 o1 o2, (((w.alloc o0).alloc o1).alloc o2).heap.size = w.heap.size + 1 + 1 + 1) := fun o0 o1 o2 => by rw [size_new, size_new, size_new]
  go_enter Tryz.func9, Tryz.ntmps9
  go_wp2_with fail
  refine (toLockSW_any vl ls _ (HL.out.1.below (HB.out _ _ _)) h1 HL.out.2).mono ?_
  rintro e w1 ⟨gl, rfl, hgl, hgl2, hr, hwl, b1⟩
  obtain ⟨k0, k1, k2, kS, kB⟩ := three b1
  rw [HS.out] at hr hgl hwl
  obtain ⟨s0, t0⟩ := blk_cell k2 2 (x := .slice none 0 0) rfl
  have c3 : (w1.setCell ⟨w.heap.size + 1 + 1, 2, none⟩ (.slice (some ⟨gl, 0, none⟩) ls.length ls.length)).cell? ⟨w.heap.size, 3, none⟩ = some vs := by
    have h := (blk_far (k := w.heap.size) (b := w.heap.size + 1 + 1) (by omega) 2 (.slice (some ⟨gl, 0, none⟩) ls.length ls.length)).trans k0
    exact (blk_cell h 3 (x := vs) rfl).1
  have K1 : Hid ((w1.setCell ⟨w.heap.size + 1 + 1, 2, none⟩ (.slice (some ⟨gl, 0, none⟩) ls.length ls.length)).heap[w.heap.size + 1]? = some (.cells #[.int .i64 0, .int .i64 0, .slice none 0 0, .slice none 0 0] 30 (0, 0))) := (blk_far (by omega) 2 (.slice (some ⟨gl, 0, none⟩) ls.length ls.length)).trans k1
  have K2 : Hid ((w1.setCell ⟨w.heap.size + 1 + 1, 2, none⟩ (.slice (some ⟨gl, 0, none⟩) ls.length ls.length)).heap[w.heap.size + 1 + 1]? = some (.cells #[.int .i64 tm, .int .i64 nx, (.slice (some ⟨gl, 0, none⟩) ls.length ls.length), .slice none 0 0] 30 (0, 0))) := blk_set k2 2 (.slice (some ⟨gl, 0, none⟩) ls.length ls.length)
  have KB : Hid (Below w.heap.size w (w1.setCell ⟨w.heap.size + 1 + 1, 2, none⟩ (.slice (some ⟨gl, 0, none⟩) ls.length ls.length))) := Below.setCell kB (p := ⟨w.heap.size + 1 + 1, 2, none⟩) (by show _ ≤ w.heap.size + 1 + 1; omega) (.slice (some ⟨gl, 0, none⟩) ls.length ls.length)
  have KR : Hid (RowLA (w.heap.size + 1 + 1 + 1) (w1.setCell ⟨w.heap.size + 1 + 1, 2, none⟩ (.slice (some ⟨gl, 0, none⟩) ls.length ls.length)) (.slice (some ⟨gl, 0, none⟩) ls.length ls.length) ls) := hr.keep ((Abv.refl _ _).set (by omega) _)
  have KZ : Hid (w.heap.size + 1 + 1 + 1 ≤ ((w1.setCell ⟨w.heap.size + 1 + 1, 2, none⟩ (.slice (some ⟨gl, 0, none⟩) ls.length ls.length))).heap.size) := by show _ ≤ _; simpa using kS
  have KW : Hid (WrL w.heap.size w1.heap.size (w1.setCell ⟨w.heap.size + 1 + 1, 2, none⟩ (.slice (some ⟨gl, 0, none⟩) ls.length ls.length)) gl (ls.map fun x => x.ws.length)) := (hwl.far (by omega) _ _).mono (by omega) (Nat.le_refl _)
  have KG : Hid (w.heap.size + 3 ≤ gl ∧ gl < w1.heap.size ∧ w1.heap.size ≤ (w1.setCell ⟨w.heap.size + 1 + 1, 2, none⟩ (.slice (some ⟨gl, 0, none⟩) ls.length ls.length)).heap.size) := ⟨by omega, hgl2, by simp⟩
  clear b1 k0 k1 k2 kB kS hr hgl hgl2 hwl HB HS
  go_upto_region 5 with fail
  generalize (w1.setCell ⟨w.heap.size + 1 + 1, 2, none⟩ (.slice (some ⟨gl, 0, none⟩) ls.length ls.length)) = w2 at c3 K1 K2 KB KR KZ KW KG ⊢
  clear s0 t0
  go_wp2_with fail
  refine (toSeenSW_any vs ss w2 (HSS.out.below KB.out) h2).mono ?_
  rintro e w3 ⟨g, rfl, hg0, hg1, hr, b3, hws⟩
  obtain ⟨us, HUS⟩ : ∃ us, us = Value.slice (some ⟨g, 0, none⟩) ss.length ss.length := ⟨_, rfl⟩
  have KR3 : Hid (RowLA (w.heap.size + 1 + 1 + 1) w3 (.slice (some ⟨gl, 0, none⟩) ls.length ls.length) ls ∧ RowSA (w.heap.size + 1 + 1 + 1) w3 us ss) := ⟨KR.out.keep (Abv.of b3), ⟨some ⟨g, 0, none⟩, ss.length, HUS, .inr ⟨g, 0, rfl, Nat.le_refl _, hg1, fun i x hi => by rw [Nat.zero_add]; exact ⟨by have := KZ.out; omega, hr i x hi⟩⟩⟩⟩
  have K13 : Hid (w3.heap[w.heap.size + 1]? = some (.cells #[.int .i64 0, .int .i64 0, .slice none 0 0, .slice none 0 0] 30 (0, 0))) := (b3.block _ (by have := KZ.out; omega)).trans K1.out
  have K23 : Hid (w3.heap[w.heap.size + 1 + 1]? = some (.cells #[.int .i64 tm, .int .i64 nx, (.slice (some ⟨gl, 0, none⟩) ls.length ls.length), .slice none 0 0] 30 (0, 0))) := (b3.block _ (by have := KZ.out; omega)).trans K2.out
  have KB3 : Hid (Below w.heap.size w w3) := KB.out.trans (b3.mono KB.out.size)
  have KW3 : Hid (WrL w.heap.size w3.heap.size w3 gl (ls.map fun x => x.ws.length) ∧ Wr w3 g (ss.length * 6) ∧ w.heap.size + 3 ≤ gl ∧ gl < w3.heap.size ∧ w.heap.size + 3 ≤ g ∧ g < w3.heap.size) := ⟨(KW.out.below b3).mono (Nat.le_refl _) (Nat.le_trans KG.out.2.2 b3.size), hws, KG.out.1, by have := KG.out; have := b3.size; omega, by have := KG.out; have := KZ.out; omega, hg1⟩
  clear hr hg0 hg1 b3 K1 K2 KB KR KZ c3 KW KG hws
  have K1 := K13
  have K2 := K23
  have KB := KB3
  have KR := KR3
  clear K13 K23 KB3 KR3
  subst HUS
  obtain ⟨s0, t0⟩ := blk_cell K2.out 3 (x := .slice none 0 0) rfl
  have B2 : Hid ((w3.setCell ⟨w.heap.size + 1 + 1, 3, none⟩ ((.slice (some ⟨g, 0, none⟩) ss.length ss.length))).heap[w.heap.size + 1 + 1]? = some (.cells #[.int .i64 tm, .int .i64 nx, (.slice (some ⟨gl, 0, none⟩) ls.length ls.length), (.slice (some ⟨g, 0, none⟩) ss.length ss.length)] 30 (0, 0))) := (blk_set K2.out 3 ((.slice (some ⟨g, 0, none⟩) ss.length ss.length)))
  have A2 : Hid ((w3.setCell ⟨w.heap.size + 1 + 1, 3, none⟩ ((.slice (some ⟨g, 0, none⟩) ss.length ss.length))).heap[w.heap.size + 1]? = some (.cells #[.int .i64 0, .int .i64 0, .slice none 0 0, .slice none 0 0] 30 (0, 0))) := ((blk_far (by omega) 3 ((.slice (some ⟨g, 0, none⟩) ss.length ss.length))).trans K1.out)
  have G2 : Hid (Below w.heap.size w (w3.setCell ⟨w.heap.size + 1 + 1, 3, none⟩ ((.slice (some ⟨g, 0, none⟩) ss.length ss.length)))) := (Below.setCell KB.out (p := ⟨w.heap.size + 1 + 1, 3, none⟩) (by show _ ≤ w.heap.size + 1 + 1; omega) ((.slice (some ⟨g, 0, none⟩) ss.length ss.length)))
  have R2 : Hid (RowLA (w.heap.size + 1 + 1 + 1) (w3.setCell ⟨w.heap.size + 1 + 1, 3, none⟩ ((.slice (some ⟨g, 0, none⟩) ss.length ss.length))) (.slice (some ⟨gl, 0, none⟩) ls.length ls.length) ls ∧ RowSA (w.heap.size + 1 + 1 + 1) (w3.setCell ⟨w.heap.size + 1 + 1, 3, none⟩ ((.slice (some ⟨g, 0, none⟩) ss.length ss.length))) (.slice (some ⟨g, 0, none⟩) ss.length ss.length) ss) := ⟨KR.out.1.keep ((Abv.refl _ _).set (by omega) _), KR.out.2.keep ((Abv.refl _ _).set (by omega) _)⟩
  have W9 : Hid (WrL w.heap.size w3.heap.size (w3.setCell ⟨w.heap.size + 1 + 1, 3, none⟩ ((.slice (some ⟨g, 0, none⟩) ss.length ss.length))) gl (ls.map fun x => x.ws.length) ∧ Wr (w3.setCell ⟨w.heap.size + 1 + 1, 3, none⟩ ((.slice (some ⟨g, 0, none⟩) ss.length ss.length))) g (ss.length * 6) ∧ (w3.setCell ⟨w.heap.size + 1 + 1, 3, none⟩ ((.slice (some ⟨g, 0, none⟩) ss.length ss.length))).heap.size = w3.heap.size) := ⟨KW3.out.1.far (by have := KW3.out; omega) _ _, KW3.out.2.1.set _ _ _, by simp⟩
  clear K1 K2 KR
  go_upto_region 6 with fail
  generalize (w3.setCell ⟨w.heap.size + 1 + 1, 3, none⟩ ((.slice (some ⟨g, 0, none⟩) ss.length ss.length))) = w9 at B2 A2 G2 R2 W9 ⊢
  have p0 := (blk_cell B2.out 0 (x := .int .i64 tm) rfl).1
  have p1 := (blk_cell B2.out 1 (x := .int .i64 nx) rfl).1
  have p2 := (blk_cell B2.out 2 (x := (.slice (some ⟨gl, 0, none⟩) ls.length ls.length)) rfl).1
  have p3 := (blk_cell B2.out 3 (x := (.slice (some ⟨g, 0, none⟩) ss.length ss.length)) rfl).1
  obtain ⟨m0, n0⟩ := blk_cell A2.out 0 (x := .int .i64 0) rfl
  obtain ⟨m1, n1⟩ := blk_cell A2.out 1 (x := .int .i64 0) rfl
  obtain ⟨m2, n2⟩ := blk_cell A2.out 2 (x := .slice none 0 0) rfl
  obtain ⟨m3, n3⟩ := blk_cell A2.out 3 (x := .slice none 0 0) rfl
  have AF : ((((w9.setCell ⟨w.heap.size + 1, 0, none⟩ (.int .i64 tm)).setCell ⟨w.heap.size + 1, 1, none⟩ (.int .i64 nx)).setCell ⟨w.heap.size + 1, 2, none⟩ ((.slice (some ⟨gl, 0, none⟩) ls.length ls.length))).setCell ⟨w.heap.size + 1, 3, none⟩ ((.slice (some ⟨g, 0, none⟩) ss.length ss.length))).heap[w.heap.size + 1]? = some (.cells #[.int .i64 tm, .int .i64 nx, (.slice (some ⟨gl, 0, none⟩) ls.length ls.length), (.slice (some ⟨g, 0, none⟩) ss.length ss.length)] 30 (0, 0)) := (blk_set (blk_set (blk_set (blk_set A2.out 0 (.int .i64 tm)) 1 (.int .i64 nx)) 2 ((.slice (some ⟨gl, 0, none⟩) ls.length ls.length))) 3 ((.slice (some ⟨g, 0, none⟩) ss.length ss.length)))
  have RF : Hid (RowL ((((w9.setCell ⟨w.heap.size + 1, 0, none⟩ (.int .i64 tm)).setCell ⟨w.heap.size + 1, 1, none⟩ (.int .i64 nx)).setCell ⟨w.heap.size + 1, 2, none⟩ ((.slice (some ⟨gl, 0, none⟩) ls.length ls.length))).setCell ⟨w.heap.size + 1, 3, none⟩ ((.slice (some ⟨g, 0, none⟩) ss.length ss.length))) (.slice (some ⟨gl, 0, none⟩) ls.length ls.length) ls ∧ RowS ((((w9.setCell ⟨w.heap.size + 1, 0, none⟩ (.int .i64 tm)).setCell ⟨w.heap.size + 1, 1, none⟩ (.int .i64 nx)).setCell ⟨w.heap.size + 1, 2, none⟩ ((.slice (some ⟨gl, 0, none⟩) ls.length ls.length))).setCell ⟨w.heap.size + 1, 3, none⟩ ((.slice (some ⟨g, 0, none⟩) ss.length ss.length))) (.slice (some ⟨g, 0, none⟩) ss.length ss.length) ss) := ⟨(R2.out.1.keep (Abv.set (Abv.set (Abv.set (Abv.set (Abv.refl _ _) (by omega) _) (by omega) _) (by omega) _) (by omega) _)).row, (R2.out.2.keep (Abv.set (Abv.set (Abv.set (Abv.set (Abv.refl _ _) (by omega) _) (by omega) _) (by omega) _) (by omega) _)).row⟩
  have WF : Hid (WrL w.heap.size w3.heap.size ((((w9.setCell ⟨w.heap.size + 1, 0, none⟩ (.int .i64 tm)).setCell ⟨w.heap.size + 1, 1, none⟩ (.int .i64 nx)).setCell ⟨w.heap.size + 1, 2, none⟩ ((.slice (some ⟨gl, 0, none⟩) ls.length ls.length))).setCell ⟨w.heap.size + 1, 3, none⟩ ((.slice (some ⟨g, 0, none⟩) ss.length ss.length))) gl (ls.map fun x => x.ws.length) ∧ Wr ((((w9.setCell ⟨w.heap.size + 1, 0, none⟩ (.int .i64 tm)).setCell ⟨w.heap.size + 1, 1, none⟩ (.int .i64 nx)).setCell ⟨w.heap.size + 1, 2, none⟩ ((.slice (some ⟨gl, 0, none⟩) ls.length ls.length))).setCell ⟨w.heap.size + 1, 3, none⟩ ((.slice (some ⟨g, 0, none⟩) ss.length ss.length))) g (ss.length * 6) ∧ ((((w9.setCell ⟨w.heap.size + 1, 0, none⟩ (.int .i64 tm)).setCell ⟨w.heap.size + 1, 1, none⟩ (.int .i64 nx)).setCell ⟨w.heap.size + 1, 2, none⟩ ((.slice (some ⟨gl, 0, none⟩) ls.length ls.length))).setCell ⟨w.heap.size + 1, 3, none⟩ ((.slice (some ⟨g, 0, none⟩) ss.length ss.length))).heap.size = w3.heap.size) := ⟨(((W9.out.1.far (by have := KW3.out; omega) _ _).far (by have := KW3.out; omega) _ _).far (by have := KW3.out; omega) _ _).far (by have := KW3.out; omega) _ _, (((W9.out.2.1.set _ _ _).set _ _ _).set _ _ _).set _ _ _, by simpa using W9.out.2.2⟩
  have GF : Below w.heap.size w ((((w9.setCell ⟨w.heap.size + 1, 0, none⟩ (.int .i64 tm)).setCell ⟨w.heap.size + 1, 1, none⟩ (.int .i64 nx)).setCell ⟨w.heap.size + 1, 2, none⟩ ((.slice (some ⟨gl, 0, none⟩) ls.length ls.length))).setCell ⟨w.heap.size + 1, 3, none⟩ ((.slice (some ⟨g, 0, none⟩) ss.length ss.length))) := (Below.setCell (Below.setCell (Below.setCell (Below.setCell G2.out (p := ⟨w.heap.size + 1, 0, none⟩) (by show _ ≤ w.heap.size + 1; omega) (.int .i64 tm)) (p := ⟨w.heap.size + 1, 1, none⟩) (by show _ ≤ w.heap.size + 1; omega) (.int .i64 nx)) (p := ⟨w.heap.size + 1, 2, none⟩) (by show _ ≤ w.heap.size + 1; omega) ((.slice (some ⟨gl, 0, none⟩) ls.length ls.length))) (p := ⟨w.heap.size + 1, 3, none⟩) (by show _ ≤ w.heap.size + 1; omega) ((.slice (some ⟨g, 0, none⟩) ss.length ss.length)))
  go_wp2_with fail
  generalize ((((w9.setCell ⟨w.heap.size + 1, 0, none⟩ (.int .i64 tm)).setCell ⟨w.heap.size + 1, 1, none⟩ (.int .i64 nx)).setCell ⟨w.heap.size + 1, 2, none⟩ ((.slice (some ⟨gl, 0, none⟩) ls.length ls.length))).setCell ⟨w.heap.size + 1, 3, none⟩ ((.slice (some ⟨g, 0, none⟩) ss.length ss.length))) = wf at AF GF RF WF ⊢
  have d0 := (blk_cell AF 0 (x := .int .i64 tm) rfl).1
  have d1 := (blk_cell AF 1 (x := .int .i64 nx) rfl).1
  have d2 := (blk_cell AF 2 (x := (.slice (some ⟨gl, 0, none⟩) ls.length ls.length)) rfl).1
  have d3 := (blk_cell AF 3 (x := (.slice (some ⟨g, 0, none⟩) ss.length ss.length)) rfl).1
  exact bodyPost_ret (v := tabV tm nx (.slice (some ⟨gl, 0, none⟩) ls.length ls.length) (.slice (some ⟨g, 0, none⟩) ss.length ss.length)) (by simp [tabV, results, Tryz.results9, go_sem, d0, d1, d2, d3]) rfl ⟨gl, g, rfl, RF.out.1, RF.out.2, ⟨by rw [WF.out.2.2]; have := KW3.out; omega, by rw [WF.out.2.2]; exact WF.out.1, WF.out.2.1⟩, GF⟩
end Go.Proofs.YtlgfeohoebmbcaaGreat.Mw
