/- The laws' helpers over batches. -/
import Derived.Test.YtpljjchjdejcfaaBo2
import Derived.Test.YtpljjchjdejcfaaReqLaw
namespace Go.Proofs.Ytpljjchjdejcfaa.Hb
open Go.RowKit Go.Proofs.Ytpljjchjdejcfaa.Sl Go.Proofs.Ytpljjchjdejcfaa.Rg Go.Proofs.Ytpljjchjdejcfaa.Gr Go.Proofs.Ytpljjchjdejcfaa.Rq Go.Proofs.Ytpljjchjdejcfaa.Bo

theorem two {w w1 : World} {o0 o1 : Obj} (b : Below ((w.alloc o0).alloc o1).heap.size ((w.alloc o0).alloc o1) w1) : w1.heap[w.heap.size]? = some o0 ∧ w1.heap[w.heap.size + 1]? = some o1 ∧ Below w.heap.size w w1 := by
  have e1 : (w.alloc o0).heap.size = w.heap.size + 1 := Rg.size_new _ _
  have e2 : ((w.alloc o0).alloc o1).heap.size = w.heap.size + 1 + 1 := by rw [Rg.size_new, e1]
  have b1 : Below w.heap.size w ((w.alloc o0).alloc o1) := ((Below.refl _ _).alloc (Nat.le_refl _) _).alloc (by rw [e1]; omega) _
  rw [e2] at b
  refine ⟨?_, ?_, b1.trans (b.mono (by omega))⟩
  · rw [b.block _ (by omega), Below.heap_alloc _ _ _ (by omega)]; exact heap_alloc_new w _
  · rw [b.block _ (by omega), ← e1]; exact heap_alloc_new _ _
theorem e_of_block {w w' : World} {g o : Nat} {x : Rd} (h : w'.heap[g]? = w.heap[g]?) (hx : E1 w g o x) : E1 w' g o x := by
  obtain ⟨h0, h1, h2⟩ := hx
  exact ⟨(World.cell?_of_block (a := ⟨g, _, none⟩) h).trans h0, (World.cell?_of_block (a := ⟨g, _, none⟩) h).trans h1, (World.cell?_of_block (a := ⟨g, _, none⟩) h).trans h2⟩
set_option maxRecDepth 100000 in
set_option maxHeartbeats 1600000 in
theorem to_any (nl : Bool) (c st k l : Int) (n : ByteArray) (vr : Value) (rs : List Rd) (w : World) (h : Row w vr rs) (hl : rs.length ≤ 1048576) :
    Calls Try.prog 34 #[batV nl c st k l n vr] w fun e w' => ∃ g, e = .returned (batV nl c st k l n (.slice (some ⟨g, 0, none⟩) rs.length rs.length)) ∧ w.heap.size ≤ g ∧ g < w'.heap.size ∧ (∀ i x, rs[i]? = some x → E1 w' g (i * 3) x) ∧ Below w.heap.size w w' ∧ Wr w' g (rs.length * 3) := by
  have HR : Hid (Row w vr rs) := h
  clear h
  unfold batV
  have HB : Hid (∀ o0 o1 o2, Below w.heap.size w (((w.alloc o0).alloc o1).alloc o2)) := fun o0 o1 o2 => (three (Below.refl _ _)).2.2.2.2
  have HS : Hid (∀ o0 o1 o2, (((w.alloc o0).alloc o1).alloc o2).heap.size = w.heap.size + 1 + 1 + 1) := fun o0 o1 o2 => by rw [Rg.size_new, Rg.size_new, Rg.size_new]
  go_enter Try.func34, Try.ntmps34
  go_wp2_with fail
  refine (toRequest_any c st k l n _).mono ?_
  rintro e w1 ⟨rfl, b1⟩
  unfold reqV
  obtain ⟨k0, k1, k2, kS, kB⟩ := three b1
  obtain ⟨s0, t0⟩ := blk_cell k2 1 (x := .int .i64 0) rfl
  obtain ⟨s1, t1⟩ := blk_cell k2 2 (x := .int .i64 0) rfl
  obtain ⟨s2, t2⟩ := blk_cell k2 3 (x := .int .i64 0) rfl
  obtain ⟨s3, t3⟩ := blk_cell k2 4 (x := .int .i64 0) rfl
  obtain ⟨s4, t4⟩ := blk_cell k2 5 (x := .string ⟨#[]⟩) rfl
  have K0 : Hid ((((((w1.setCell ⟨w.heap.size + 1 + 1, 1, none⟩ (.int .i64 c)).setCell ⟨w.heap.size + 1 + 1, 2, none⟩ (.int .i64 st)).setCell ⟨w.heap.size + 1 + 1, 3, none⟩ (.int .i64 k)).setCell ⟨w.heap.size + 1 + 1, 4, none⟩ (.int .i64 l)).setCell ⟨w.heap.size + 1 + 1, 5, none⟩ (.string n)).heap[w.heap.size]? = some (.cells #[.bool nl, .int .i64 c, .int .i64 st, .int .i64 k, .int .i64 l, .string n, vr] 54)) := ((blk_far (by omega) 5 (.string n)).trans ((blk_far (by omega) 4 (.int .i64 l)).trans ((blk_far (by omega) 3 (.int .i64 k)).trans ((blk_far (by omega) 2 (.int .i64 st)).trans ((blk_far (by omega) 1 (.int .i64 c)).trans k0)))))
  have K1 : Hid ((((((w1.setCell ⟨w.heap.size + 1 + 1, 1, none⟩ (.int .i64 c)).setCell ⟨w.heap.size + 1 + 1, 2, none⟩ (.int .i64 st)).setCell ⟨w.heap.size + 1 + 1, 3, none⟩ (.int .i64 k)).setCell ⟨w.heap.size + 1 + 1, 4, none⟩ (.int .i64 l)).setCell ⟨w.heap.size + 1 + 1, 5, none⟩ (.string n)).heap[w.heap.size + 1]? = some (.cells #[.bool false, .int .i64 0, .int .i64 0, .int .i64 0, .int .i64 0, .string ⟨#[]⟩, .slice none 0 0] 60 (0, 0))) := ((blk_far (by omega) 5 (.string n)).trans ((blk_far (by omega) 4 (.int .i64 l)).trans ((blk_far (by omega) 3 (.int .i64 k)).trans ((blk_far (by omega) 2 (.int .i64 st)).trans ((blk_far (by omega) 1 (.int .i64 c)).trans k1)))))
  have K2 : Hid ((((((w1.setCell ⟨w.heap.size + 1 + 1, 1, none⟩ (.int .i64 c)).setCell ⟨w.heap.size + 1 + 1, 2, none⟩ (.int .i64 st)).setCell ⟨w.heap.size + 1 + 1, 3, none⟩ (.int .i64 k)).setCell ⟨w.heap.size + 1 + 1, 4, none⟩ (.int .i64 l)).setCell ⟨w.heap.size + 1 + 1, 5, none⟩ (.string n)).heap[w.heap.size + 1 + 1]? = some (.cells #[.bool nl, .int .i64 c, .int .i64 st, .int .i64 k, .int .i64 l, .string n, .slice none 0 0] 60 (0, 0))) := (blk_set (blk_set (blk_set (blk_set (blk_set k2 1 (.int .i64 c)) 2 (.int .i64 st)) 3 (.int .i64 k)) 4 (.int .i64 l)) 5 (.string n))
  have KB : Hid (Below w.heap.size w (((((w1.setCell ⟨w.heap.size + 1 + 1, 1, none⟩ (.int .i64 c)).setCell ⟨w.heap.size + 1 + 1, 2, none⟩ (.int .i64 st)).setCell ⟨w.heap.size + 1 + 1, 3, none⟩ (.int .i64 k)).setCell ⟨w.heap.size + 1 + 1, 4, none⟩ (.int .i64 l)).setCell ⟨w.heap.size + 1 + 1, 5, none⟩ (.string n)) ∧ w.heap.size + 1 + 1 + 1 ≤ (((((w1.setCell ⟨w.heap.size + 1 + 1, 1, none⟩ (.int .i64 c)).setCell ⟨w.heap.size + 1 + 1, 2, none⟩ (.int .i64 st)).setCell ⟨w.heap.size + 1 + 1, 3, none⟩ (.int .i64 k)).setCell ⟨w.heap.size + 1 + 1, 4, none⟩ (.int .i64 l)).setCell ⟨w.heap.size + 1 + 1, 5, none⟩ (.string n)).heap.size) := ⟨(Below.setCell (Below.setCell (Below.setCell (Below.setCell (Below.setCell kB (p := ⟨w.heap.size + 1 + 1, 1, none⟩) (by show _ ≤ w.heap.size + 1 + 1; omega) (.int .i64 c)) (p := ⟨w.heap.size + 1 + 1, 2, none⟩) (by show _ ≤ w.heap.size + 1 + 1; omega) (.int .i64 st)) (p := ⟨w.heap.size + 1 + 1, 3, none⟩) (by show _ ≤ w.heap.size + 1 + 1; omega) (.int .i64 k)) (p := ⟨w.heap.size + 1 + 1, 4, none⟩) (by show _ ≤ w.heap.size + 1 + 1; omega) (.int .i64 l)) (p := ⟨w.heap.size + 1 + 1, 5, none⟩) (by show _ ≤ w.heap.size + 1 + 1; omega) (.string n)), by simpa using kS⟩
  clear b1 k0 k1 k2 kS kB HB HS
  go_upto_region 4 with fail
  generalize (((((w1.setCell ⟨w.heap.size + 1 + 1, 1, none⟩ (.int .i64 c)).setCell ⟨w.heap.size + 1 + 1, 2, none⟩ (.int .i64 st)).setCell ⟨w.heap.size + 1 + 1, 3, none⟩ (.int .i64 k)).setCell ⟨w.heap.size + 1 + 1, 4, none⟩ (.int .i64 l)).setCell ⟨w.heap.size + 1 + 1, 5, none⟩ (.string n)) = w2 at K0 K1 K2 KB ⊢
  clear s0 t0 s1 t1 s2 t2 s3 t3 s4 t4
  have c6 := (blk_cell K0.out 6 (x := vr) rfl).1
  go_wp2_with fail
  refine (toS_any vr rs w2 (HR.out.below KB.out.1) hl).mono ?_
  rintro e w3 ⟨g, rfl, hg0, hg1, hr, b3, hwr⟩
  have hgS : w.heap.size + 1 + 1 + 1 ≤ g := Nat.le_trans KB.out.2 hg0
  have K13 : Hid (w3.heap[w.heap.size + 1]? = some (.cells #[.bool false, .int .i64 0, .int .i64 0, .int .i64 0, .int .i64 0, .string ⟨#[]⟩, .slice none 0 0] 60 (0, 0))) := (b3.block _ (by have := KB.out.2; omega)).trans K1.out
  have K23 : Hid (w3.heap[w.heap.size + 1 + 1]? = some (.cells #[.bool nl, .int .i64 c, .int .i64 st, .int .i64 k, .int .i64 l, .string n, .slice none 0 0] 60 (0, 0))) := (b3.block _ (by have := KB.out.2; omega)).trans K2.out
  have KB3 : Hid (Below w.heap.size w w3) := KB.out.1.trans (b3.mono KB.out.1.size)
  have KR : Hid (g < w3.heap.size ∧ (∀ i y, rs[i]? = some y → E1 w3 g (i * 3) y) ∧ Wr w3 g (rs.length * 3)) := ⟨hg1, hr, hwr⟩
  clear hg0 hg1 hr b3 hwr K0 K1 K2 KB c6
  obtain ⟨s0, t0⟩ := blk_cell K23.out 6 (x := .slice none 0 0) rfl
  have B2 : Hid ((w3.setCell ⟨w.heap.size + 1 + 1, 6, none⟩ (.slice (some ⟨g, 0, none⟩) rs.length rs.length)).heap[w.heap.size + 1 + 1]? = some (.cells #[.bool nl, .int .i64 c, .int .i64 st, .int .i64 k, .int .i64 l, .string n, .slice (some ⟨g, 0, none⟩) rs.length rs.length] 60 (0, 0))) := blk_set K23.out 6 (.slice (some ⟨g, 0, none⟩) rs.length rs.length)
  have A2 : Hid ((w3.setCell ⟨w.heap.size + 1 + 1, 6, none⟩ (.slice (some ⟨g, 0, none⟩) rs.length rs.length)).heap[w.heap.size + 1]? = some (.cells #[.bool false, .int .i64 0, .int .i64 0, .int .i64 0, .int .i64 0, .string ⟨#[]⟩, .slice none 0 0] 60 (0, 0))) := (blk_far (by omega) 6 (.slice (some ⟨g, 0, none⟩) rs.length rs.length)).trans K13.out
  have G2 : Hid (Below w.heap.size w (w3.setCell ⟨w.heap.size + 1 + 1, 6, none⟩ (.slice (some ⟨g, 0, none⟩) rs.length rs.length))) := Below.setCell KB3.out (p := ⟨w.heap.size + 1 + 1, 6, none⟩) (by show _ ≤ w.heap.size + 1 + 1; omega) (.slice (some ⟨g, 0, none⟩) rs.length rs.length)
  have R2 : Hid (g < (w3.setCell ⟨w.heap.size + 1 + 1, 6, none⟩ (.slice (some ⟨g, 0, none⟩) rs.length rs.length)).heap.size ∧ (∀ i y, rs[i]? = some y → E1 (w3.setCell ⟨w.heap.size + 1 + 1, 6, none⟩ (.slice (some ⟨g, 0, none⟩) rs.length rs.length)) g (i * 3) y) ∧ Wr (w3.setCell ⟨w.heap.size + 1 + 1, 6, none⟩ (.slice (some ⟨g, 0, none⟩) rs.length rs.length)) g (rs.length * 3)) := ⟨by simpa using KR.out.1, fun i y hy => e_of_block (blk_far (by omega) 6 (.slice (some ⟨g, 0, none⟩) rs.length rs.length)) (KR.out.2.1 i y hy), KR.out.2.2.set _ _ _⟩
  clear K13 K23 KB3 KR
  go_upto_region 5 with fail
  generalize (w3.setCell ⟨w.heap.size + 1 + 1, 6, none⟩ (.slice (some ⟨g, 0, none⟩) rs.length rs.length)) = w9 at B2 A2 G2 R2 ⊢
  have p0 := (blk_cell B2.out 0 (x := .bool nl) rfl).1
  have p1 := (blk_cell B2.out 1 (x := .int .i64 c) rfl).1
  have p2 := (blk_cell B2.out 2 (x := .int .i64 st) rfl).1
  have p3 := (blk_cell B2.out 3 (x := .int .i64 k) rfl).1
  have p4 := (blk_cell B2.out 4 (x := .int .i64 l) rfl).1
  have p5 := (blk_cell B2.out 5 (x := .string n) rfl).1
  have p6 := (blk_cell B2.out 6 (x := .slice (some ⟨g, 0, none⟩) rs.length rs.length) rfl).1
  obtain ⟨m0, n0⟩ := blk_cell A2.out 0 (x := .bool false) rfl
  obtain ⟨m1, n1⟩ := blk_cell A2.out 1 (x := .int .i64 0) rfl
  obtain ⟨m2, n2⟩ := blk_cell A2.out 2 (x := .int .i64 0) rfl
  obtain ⟨m3, n3⟩ := blk_cell A2.out 3 (x := .int .i64 0) rfl
  obtain ⟨m4, n4⟩ := blk_cell A2.out 4 (x := .int .i64 0) rfl
  obtain ⟨m5, n5⟩ := blk_cell A2.out 5 (x := .string ⟨#[]⟩) rfl
  obtain ⟨m6, n6⟩ := blk_cell A2.out 6 (x := .slice none 0 0) rfl
  have AF : (((((((w9.setCell ⟨w.heap.size + 1, 0, none⟩ (.bool nl)).setCell ⟨w.heap.size + 1, 1, none⟩ (.int .i64 c)).setCell ⟨w.heap.size + 1, 2, none⟩ (.int .i64 st)).setCell ⟨w.heap.size + 1, 3, none⟩ (.int .i64 k)).setCell ⟨w.heap.size + 1, 4, none⟩ (.int .i64 l)).setCell ⟨w.heap.size + 1, 5, none⟩ (.string n)).setCell ⟨w.heap.size + 1, 6, none⟩ (.slice (some ⟨g, 0, none⟩) rs.length rs.length)).heap[w.heap.size + 1]? = some (.cells #[.bool nl, .int .i64 c, .int .i64 st, .int .i64 k, .int .i64 l, .string n, .slice (some ⟨g, 0, none⟩) rs.length rs.length] 60 (0, 0)) := (blk_set (blk_set (blk_set (blk_set (blk_set (blk_set (blk_set A2.out 0 (.bool nl)) 1 (.int .i64 c)) 2 (.int .i64 st)) 3 (.int .i64 k)) 4 (.int .i64 l)) 5 (.string n)) 6 (.slice (some ⟨g, 0, none⟩) rs.length rs.length))
  have FF : (((((((w9.setCell ⟨w.heap.size + 1, 0, none⟩ (.bool nl)).setCell ⟨w.heap.size + 1, 1, none⟩ (.int .i64 c)).setCell ⟨w.heap.size + 1, 2, none⟩ (.int .i64 st)).setCell ⟨w.heap.size + 1, 3, none⟩ (.int .i64 k)).setCell ⟨w.heap.size + 1, 4, none⟩ (.int .i64 l)).setCell ⟨w.heap.size + 1, 5, none⟩ (.string n)).setCell ⟨w.heap.size + 1, 6, none⟩ (.slice (some ⟨g, 0, none⟩) rs.length rs.length)).heap[g]? = w9.heap[g]? := ((blk_far (by omega) 6 (.slice (some ⟨g, 0, none⟩) rs.length rs.length)).trans ((blk_far (by omega) 5 (.string n)).trans ((blk_far (by omega) 4 (.int .i64 l)).trans ((blk_far (by omega) 3 (.int .i64 k)).trans ((blk_far (by omega) 2 (.int .i64 st)).trans ((blk_far (by omega) 1 (.int .i64 c)).trans ((blk_far (by omega) 0 (.bool nl)).trans (Eq.refl w9.heap[g]?))))))))
  have RF : Hid (g < (((((((w9.setCell ⟨w.heap.size + 1, 0, none⟩ (.bool nl)).setCell ⟨w.heap.size + 1, 1, none⟩ (.int .i64 c)).setCell ⟨w.heap.size + 1, 2, none⟩ (.int .i64 st)).setCell ⟨w.heap.size + 1, 3, none⟩ (.int .i64 k)).setCell ⟨w.heap.size + 1, 4, none⟩ (.int .i64 l)).setCell ⟨w.heap.size + 1, 5, none⟩ (.string n)).setCell ⟨w.heap.size + 1, 6, none⟩ (.slice (some ⟨g, 0, none⟩) rs.length rs.length)).heap.size ∧ (∀ i y, rs[i]? = some y → E1 (((((((w9.setCell ⟨w.heap.size + 1, 0, none⟩ (.bool nl)).setCell ⟨w.heap.size + 1, 1, none⟩ (.int .i64 c)).setCell ⟨w.heap.size + 1, 2, none⟩ (.int .i64 st)).setCell ⟨w.heap.size + 1, 3, none⟩ (.int .i64 k)).setCell ⟨w.heap.size + 1, 4, none⟩ (.int .i64 l)).setCell ⟨w.heap.size + 1, 5, none⟩ (.string n)).setCell ⟨w.heap.size + 1, 6, none⟩ (.slice (some ⟨g, 0, none⟩) rs.length rs.length)) g (i * 3) y) ∧ Wr (((((((w9.setCell ⟨w.heap.size + 1, 0, none⟩ (.bool nl)).setCell ⟨w.heap.size + 1, 1, none⟩ (.int .i64 c)).setCell ⟨w.heap.size + 1, 2, none⟩ (.int .i64 st)).setCell ⟨w.heap.size + 1, 3, none⟩ (.int .i64 k)).setCell ⟨w.heap.size + 1, 4, none⟩ (.int .i64 l)).setCell ⟨w.heap.size + 1, 5, none⟩ (.string n)).setCell ⟨w.heap.size + 1, 6, none⟩ (.slice (some ⟨g, 0, none⟩) rs.length rs.length)) g (rs.length * 3) ∧ Below w.heap.size w (((((((w9.setCell ⟨w.heap.size + 1, 0, none⟩ (.bool nl)).setCell ⟨w.heap.size + 1, 1, none⟩ (.int .i64 c)).setCell ⟨w.heap.size + 1, 2, none⟩ (.int .i64 st)).setCell ⟨w.heap.size + 1, 3, none⟩ (.int .i64 k)).setCell ⟨w.heap.size + 1, 4, none⟩ (.int .i64 l)).setCell ⟨w.heap.size + 1, 5, none⟩ (.string n)).setCell ⟨w.heap.size + 1, 6, none⟩ (.slice (some ⟨g, 0, none⟩) rs.length rs.length))) := ⟨by simpa using R2.out.1, fun i y hy => e_of_block FF (R2.out.2.1 i y hy), (((((((R2.out.2.2.set _ _ _).set _ _ _).set _ _ _).set _ _ _).set _ _ _).set _ _ _).set _ _ _), (Below.setCell (Below.setCell (Below.setCell (Below.setCell (Below.setCell (Below.setCell (Below.setCell G2.out (p := ⟨w.heap.size + 1, 0, none⟩) (by show _ ≤ w.heap.size + 1; omega) (.bool nl)) (p := ⟨w.heap.size + 1, 1, none⟩) (by show _ ≤ w.heap.size + 1; omega) (.int .i64 c)) (p := ⟨w.heap.size + 1, 2, none⟩) (by show _ ≤ w.heap.size + 1; omega) (.int .i64 st)) (p := ⟨w.heap.size + 1, 3, none⟩) (by show _ ≤ w.heap.size + 1; omega) (.int .i64 k)) (p := ⟨w.heap.size + 1, 4, none⟩) (by show _ ≤ w.heap.size + 1; omega) (.int .i64 l)) (p := ⟨w.heap.size + 1, 5, none⟩) (by show _ ≤ w.heap.size + 1; omega) (.string n)) (p := ⟨w.heap.size + 1, 6, none⟩) (by show _ ≤ w.heap.size + 1; omega) (.slice (some ⟨g, 0, none⟩) rs.length rs.length))⟩
  clear FF R2 G2
  go_wp2_with fail
  generalize (((((((w9.setCell ⟨w.heap.size + 1, 0, none⟩ (.bool nl)).setCell ⟨w.heap.size + 1, 1, none⟩ (.int .i64 c)).setCell ⟨w.heap.size + 1, 2, none⟩ (.int .i64 st)).setCell ⟨w.heap.size + 1, 3, none⟩ (.int .i64 k)).setCell ⟨w.heap.size + 1, 4, none⟩ (.int .i64 l)).setCell ⟨w.heap.size + 1, 5, none⟩ (.string n)).setCell ⟨w.heap.size + 1, 6, none⟩ (.slice (some ⟨g, 0, none⟩) rs.length rs.length)) = wf at AF RF ⊢
  have d0 := (blk_cell AF 0 (x := .bool nl) rfl).1
  have d1 := (blk_cell AF 1 (x := .int .i64 c) rfl).1
  have d2 := (blk_cell AF 2 (x := .int .i64 st) rfl).1
  have d3 := (blk_cell AF 3 (x := .int .i64 k) rfl).1
  have d4 := (blk_cell AF 4 (x := .int .i64 l) rfl).1
  have d5 := (blk_cell AF 5 (x := .string n) rfl).1
  have d6 := (blk_cell AF 6 (x := .slice (some ⟨g, 0, none⟩) rs.length rs.length) rfl).1
  exact bodyPost_ret (v := batV nl c st k l n (.slice (some ⟨g, 0, none⟩) rs.length rs.length)) (by simp [batV, results, Try.results34, go_sem, d0, d1, d2, d3, d4, d5, d6]) rfl ⟨g, rfl, by omega, RF.out.1, RF.out.2.1, RF.out.2.2.2, RF.out.2.2.1⟩
set_option maxRecDepth 100000 in
set_option maxHeartbeats 1600000 in
theorem sz_any (nl : Bool) (c st k l : Int) (n : ByteArray) (vr : Value) (rs : List Rd) (w : World) (h : Row w vr rs) (hm : ∀ x ∈ rs, Tz maxLen x) (hz : rs.length ≤ maxLen) (hn : n.size ≤ maxLen) :
    Calls Try.prog 32 #[batV nl c st k l n vr, .int .i64 1048576] w fun e w' => (∃ r : Int, e = .returned (.int .i64 r) ∧ (r = -1 ∨ ∃ q : Nat, r = q ∧ n.size ≤ 1048576 ∧ rs.length ≤ 1048576 ∧ ∀ x ∈ rs, Tz 1048576 x)) ∧ Below w.heap.size w w' := by
  have HR : Hid (Row w vr rs ∧ (∀ x ∈ rs, Tz maxLen x) ∧ rs.length ≤ maxLen) := ⟨h, hm, hz⟩
  clear h hm hz
  unfold batV
  have C := szRequest_any c st k l n 1048576 (w.alloc (.cells #[.bool nl, .int .i64 c, .int .i64 st, .int .i64 k, .int .i64 l, .string n, vr] 54)) hn (by decide) (by decide)
  unfold reqV at C
  have hn2 : n.size ≤ 9223372036854775807 := by unfold maxLen at hn; omega
  clear hn
  go_enter Try.func32, Try.ntmps32
  go_wp2_with fail
  refine C.mono ?_
  rintro e w1 ⟨rfl, b1⟩
  have h1 := (b1.block w.heap.size (by simp)).trans (heap_alloc_new w _)
  have c6 := (blk_cell h1 6 (x := vr) rfl).1
  have HB1 : Hid (Below w.heap.size w w1) := (bel_new w _).trans (b1.mono (by simp))
  clear b1 h1 C
  by_cases hb : (1048576 : Int) < (n.size : Int)
  · rw [Rq.lft_no hb]
    go_wp2_with fail
    go_ret
    exact ⟨⟨_, rfl, .inl rfl⟩, HB1.out⟩
  · rw [Rq.lft_yes hb]
    obtain ⟨q, HQ⟩ : ∃ q : Nat, (1048576 : Int) - (n.size : Int) = q ∧ q ≤ 1048576 := ⟨1048576 - n.size, by omega, by omega⟩
    rw [HQ.1]
    have hq0 : ¬ (q : Int) < 0 := by omega
    go_wp2_with fail
    refine (szS_any vr rs q w1 (HR.out.1.below HB1.out) HR.out.2.1 HR.out.2.2 HQ.2).mono ?_
    rintro e w2 ⟨⟨r, rfl, hr⟩, b2⟩
    have HB2 : Hid (Below w.heap.size w w2) := HB1.out.trans (b2.mono HB1.out.size)
    clear b2 c6
    rcases hr with rfl | ⟨p, rfl, hp1, hp2, hp3⟩
    · go_wp2_with fail
      go_ret
      exact ⟨⟨_, rfl, .inl rfl⟩, HB2.out⟩
    · have hp0 : ¬ (p : Int) < 0 := by omega
      have HP : Hid (∀ x ∈ rs, Tz 1048576 x) := hp3
      clear hp3
      go_wp2_with fail
      go_ret
      exact ⟨⟨_, rfl, .inr ⟨p, rfl, by omega, hp2, HP.out⟩⟩, HB2.out⟩
set_option maxRecDepth 100000 in
set_option maxHeartbeats 1600000 in
theorem eq_same (nl : Bool) (c st k l : Int) (n : ByteArray) (vr ur : Value) (rs : List Rd) (w : World) (h : Row w vr rs) (g : Row w ur rs) (hl : rs.length ≤ 1048576) :
    Calls Try.prog 36 #[batV nl c st k l n vr, batV nl c st k l n ur] w fun e w' => e = .returned (.bool true) ∧ Below w.heap.size w w' := by
  have HR : Hid (Row w vr rs ∧ Row w ur rs) := ⟨h, g⟩
  clear h g
  unfold batV
  have hne : (nl != nl) = false := by simp
  have C := eqRequest_same c st k l n ((w.alloc (.cells #[.bool nl, .int .i64 c, .int .i64 st, .int .i64 k, .int .i64 l, .string n, vr] 60)).alloc (.cells #[.bool nl, .int .i64 c, .int .i64 st, .int .i64 k, .int .i64 l, .string n, ur] 60))
  unfold reqV at C
  go_enter Try.func36, Try.ntmps36
  go_wp2_with fail
  refine C.mono ?_
  rintro e w1 ⟨rfl, b1⟩
  obtain ⟨h1, h2, h3⟩ := two b1
  have c6 := (blk_cell h1 6 (x := vr) rfl).1
  have d6 := (blk_cell h2 6 (x := ur) rfl).1
  have HB1 : Hid (Below w.heap.size w w1) := h3
  clear b1 h1 h2 h3 C
  go_wp2_with fail
  refine (eqS_same vr ur rs w1 (HR.out.1.below HB1.out) (HR.out.2.below HB1.out) hl).mono ?_
  rintro e w2 ⟨rfl, b2⟩
  have HB2 : Hid (Below w.heap.size w w2) := HB1.out.trans (b2.mono HB1.out.size)
  clear b2 c6 d6
  go_wp2_with fail
  go_ret
  exact ⟨rfl, HB2.out⟩
set_option maxRecDepth 100000 in
set_option maxHeartbeats 1600000 in
theorem mark_any (nl : Bool) (c st k l : Int) (n : ByteArray) (g m : Nat) (B C : Nat) (w : World) (h : Wr w g (m * 3)) (hB : B ≤ g) (hC : g < C) (hn : m ≤ 1048576) :
    Calls Try.prog 37 #[batV nl c st k l n (.slice (some ⟨g, 0, none⟩) m m), .int .i64 1] w fun e w' => (∃ r : Nat, e = .returned (.int .i64 (r : Int))) ∧ Mid B C w w' := by
  have H : Hid (Wr w g (m * 3)) := h
  clear h
  unfold batV
  have HB : Hid (Below w.heap.size w (w.alloc (.cells #[.bool nl, .int .i64 c, .int .i64 st, .int .i64 k, .int .i64 l, .string n, .slice (some ⟨g, 0, none⟩) m m] 60))) := bel_new _ _
  have h1 := heap_alloc_new w (.cells #[.bool nl, .int .i64 c, .int .i64 st, .int .i64 k, .int .i64 l, .string n, .slice (some ⟨g, 0, none⟩) m m] 60)
  have c6 := (blk_cell h1 6 (x := .slice (some ⟨g, 0, none⟩) m m) rfl).1
  clear h1
  go_enter Try.func37, Try.ntmps37
  go_wp2_with fail
  refine (markS_any g m m 1 B C _ (H.out.below HB.out) hB hC hn (by decide) (by decide)).mono ?_
  rintro e w1 ⟨r, rfl, _, _, m1⟩
  have HM : Hid (Mid B C w w1) := (Mid.of_below HB.out).trans m1
  clear m1 c6
  go_wp2_with fail
  go_ret
  exact ⟨⟨_, rfl⟩, HM.out⟩
end Go.Proofs.Ytpljjchjdejcfaa.Hb
namespace Go.Proofs.Ytpljjchjdejcfaa.Op
open Go.ChangeShapes Go.WideShapes Go.ChangeAt Go.RowKit Go.Deep Go.Proofs.Ytpljjchjdejcfaa.Gr Go.Proofs.Ytpljjchjdejcfaa.Bo
set_option maxRecDepth 100000 in
theorem open_batch {H : Type} {enc : TypeId × Value → H} {w : World} {base : Nat} {spare : Nat → Bool} {held : Bool} {r : Reach} {b0 : Nat} {v : Value} {d : DataW H} {p : List MemPlace}
    (hv : Value.okWide Try.prog w r b0 54 v) (h : DataW.Trod enc Try.prog w base spare held 54 v d p) :
    ∃ (nl : Bool) (c st k l : Int) (n : ByteArray) (vr : Value) (rs : List Rd), v = batV nl c st k l n vr ∧ Row w vr rs ∧ rs.length ≤ maxLen ∧ (∀ x ∈ rs, Tz maxLen x) ∧ n.size ≤ maxLen := by
  have k1 : Try.prog.cellsOf 3 = 1 := by kernel_rfl
  have k2 : Try.prog.cellsOf 9 = 1 := by kernel_rfl
  have k3 : Try.prog.cellsOf 4 = 1 := by kernel_rfl
  have k4 : Try.prog.cellsOf 51 = 5 := by kernel_rfl
  have k5 : Try.prog.cellsOf 52 = 1 := by kernel_rfl
  obtain ⟨cs, rfl, hsz⟩ := okWide_struct Try.underlying54 hv
  obtain ⟨fuel, hf⟩ := h
  obtain ⟨xs, n, _, _, hl, hlen, hfs⟩ := DataW.trod_struct Try.underlying54 hf
  have hsz7 : cs.size = 7 := hsz.trans (by kernel_rfl)
  obtain ⟨cl⟩ := cs
  match cl, hsz7 with
  | [c0, c1, c2, c3, c4, c5, c6], _ =>
    match xs, hlen with
    | [y0, y1, y2], _ =>
      have g0 := hfs 0 _ rfl
      have g1 := hfs 1 _ rfl
      have g2 := hfs 2 _ rfl
      simp [Value.cells, k3, k4, k5] at g0 g1 g2
      obtain ⟨z0, q0, _⟩ := DataW.trod_bool Try.underlying4 g0
      obtain ⟨xs', n', _, _, _, hlen', hfs'⟩ := DataW.trod_struct Try.underlying51 g1
      match xs', hlen' with
      | [u0, u1, u2, u3, u4], _ =>
        have a0 := hfs' 0 _ rfl
        have a1 := hfs' 1 _ rfl
        have a2 := hfs' 2 _ rfl
        have a3 := hfs' 3 _ rfl
        have a4 := hfs' 4 _ rfl
        simp [k1, k2] at a0 a1 a2 a3 a4
        obtain ⟨z1, q1, _, _⟩ := DataW.trod_int Try.underlying3 a0
        obtain ⟨z2, q2, _, _⟩ := DataW.trod_int Try.underlying3 a1
        obtain ⟨z3, q3, _, _⟩ := DataW.trod_int Try.underlying3 a2
        obtain ⟨z4, q4, _, _⟩ := DataW.trod_int Try.underlying3 a3
        obtain ⟨z5, q5, _, m5⟩ := DataW.trod_string Try.underlying9 a4
        obtain ⟨v6, rs, q6, r6, l6, t6⟩ := openGr g2
        simp at q0 q1 q2 q3 q4 q5 q6
        subst q0 q1 q2 q3 q4 q5 q6
        exact ⟨z0, z1, z2, z3, z4, z5, _, rs, rfl, r6, l6, t6, m5⟩
end Go.Proofs.Ytpljjchjdejcfaa.Op
