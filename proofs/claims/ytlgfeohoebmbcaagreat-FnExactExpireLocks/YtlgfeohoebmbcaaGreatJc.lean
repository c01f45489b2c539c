/- The program's lockBook: a lock is given to a client. -/
import Derived.Test.YtlgfeohoebmbcaaGreatJb
namespace Go.Proofs.YtlgfeohoebmbcaaGreat.Jc
open Go.RowKit Go.Proofs.YtlgfeohoebmbcaaGreat.Sl Go.Proofs.YtlgfeohoebmbcaaGreat.By Go.Proofs.YtlgfeohoebmbcaaGreat.Ap Go.Proofs.YtlgfeohoebmbcaaGreat.Tb Go.Proofs.YtlgfeohoebmbcaaGreat.Tw Go.Proofs.YtlgfeohoebmbcaaGreat.Mw Go.Proofs.YtlgfeohoebmbcaaGreat.Wa Go.Proofs.YtlgfeohoebmbcaaGreat.Bk Go.Proofs.YtlgfeohoebmbcaaGreat.Tp Go.Proofs.YtlgfeohoebmbcaaGreat.Da Go.Proofs.YtlgfeohoebmbcaaGreat.Ja Go.Proofs.YtlgfeohoebmbcaaGreat.Jb
open Go.Proofs.YtlgfeohoebmbcaaGreat.Lo (LkA uV clL OwnL own_block kind_ne Apart nest2)
open Go.Proofs.YtlgfeohoebmbcaaGreat.Tx (blk_cell blk_set blk_far blk_new bel_new)
section
variable {w0 w : World} {B p bL bS : Nat} {T : Tab} {ps : List LkA}
theorem bel2 (w : World) (a b : Obj) : Below w.heap.size w ((w.alloc a).alloc b) := (bel_new w a).alloc (by rw [Bk.size_new]; omega) b
theorem set5 {W : World} {r : Nat} {z0 z1 z2 z3 z4 : Value} (hX : W.heap[r]? = some (.cells #[z0, z1, z2, z3, z4] 95 (0, 0))) (a b c d e : Value) : (((((W.setCell ⟨r, 0, none⟩ a).setCell ⟨r, 1, none⟩ b).setCell ⟨r, 2, none⟩ c).setCell ⟨r, 3, none⟩ d).setCell ⟨r, 4, none⟩ e).heap[r]? = some (.cells #[a, b, c, d, e] 95 (0, 0)) := blk_set (blk_set (blk_set (blk_set (blk_set hX 0 a) 1 b) 2 c) 3 d) 4 e
theorem far5 {W : World} {r k : Nat} (hk : k ≠ r) (a b c d e : Value) : (((((W.setCell ⟨r, 0, none⟩ a).setCell ⟨r, 1, none⟩ b).setCell ⟨r, 2, none⟩ c).setCell ⟨r, 3, none⟩ d).setCell ⟨r, 4, none⟩ e).heap[k]? = W.heap[k]? := (blk_far hk 4 e).trans ((blk_far hk 3 d).trans ((blk_far hk 2 c).trans ((blk_far hk 1 b).trans (blk_far hk 0 a))))
/-- A world's block that bears cells of a kind that is no book's is written: five cells. -/
theorem bk5 (h : BK w0 w B p bL bS T ps) {y : Nat} {cs : Array Value} (hy : w.heap[y]? = some (.cells cs 95 (0, 0))) (h1 : y ≠ p) (hB : B ≤ y) (a b c d e : Value) : BK w0 (((((w.setCell ⟨y, 0, none⟩ a).setCell ⟨y, 1, none⟩ b).setCell ⟨y, 2, none⟩ c).setCell ⟨y, 3, none⟩ d).setCell ⟨y, 4, none⟩ e) B p bL bS T ps := by
  have k : ∀ {W : World} {cs : Array Value}, BK w0 W B p bL bS T ps → W.heap[y]? = some (.cells cs 95 (0, 0)) → ∀ (i : Nat) (v : Value), BK w0 (W.setCell ⟨y, i, none⟩ v) B p bL bS T ps := fun hW hy i v => hW.far hy h1 (fun es c => by intro e; cases e) (fun cs => by intro e; cases e) hB i v
  exact k (k (k (k (k h hy 0 a) (blk_set hy 0 a) 1 b) (blk_set (blk_set hy 0 a) 1 b) 2 c) (blk_set (blk_set (blk_set hy 0 a) 1 b) 2 c) 3 d) (blk_set (blk_set (blk_set (blk_set hy 0 a) 1 b) 2 c) 3 d) 4 e
theorem cf {W : World} {q r i j : Nat} {v x : Value} (h : q ≠ r) (hc : W.cell? ⟨q, j, none⟩ = some x) : (W.setCell ⟨r, i, none⟩ v).cell? ⟨q, j, none⟩ = some x := (World.cell?_of_block (a := ⟨q, j, none⟩) (blk_far h i v)).trans hc
set_option maxRecDepth 100000 in
set_option maxHeartbeats 3200000 in
theorem grant_any (h : BK w0 w B p bL bS T ps) (x : Lk) (ua : Option Addr) (un uc : Nat) (cl le : Int) (ht0 : 0 ≤ T.tm) (ht1 : T.tm ≤ 1000000000) (hn0 : 1 ≤ T.nx) (hn1 : T.nx ≤ 999999) (hle0 : 0 ≤ le) (hle1 : le ≤ 1000) :
    Calls Tryz.prog 100 #[.pointer (some ⟨p, 0, none⟩), lkV x (.slice ua un uc), .int .i64 cl, .int .i64 le] w fun e w' => e = .returned (lkV (grL T.tm T.nx x cl le) (.slice ua un uc)) ∧ BK w0 w' B p bL bS { T with nx := T.nx + 1 } ps ∧ Bx p w w' := by
  have HB : Hid (BK w0 ((w.alloc (.cells #[.string x.n, .int .i64 x.t, .int .i64 x.h, .int .i64 x.e, .slice ua un uc] 95)).alloc (.cells #[.string ⟨#[]⟩, .int .i64 0, .int .i64 0, .int .i64 0, .slice none 0 0] 95)) B p bL bS T ps ∧ ((w.alloc (.cells #[.string x.n, .int .i64 x.t, .int .i64 x.h, .int .i64 x.e, .slice ua un uc] 95)).alloc (.cells #[.string ⟨#[]⟩, .int .i64 0, .int .i64 0, .int .i64 0, .slice none 0 0] 95)).heap[w.heap.size]? = some (.cells #[.string x.n, .int .i64 x.t, .int .i64 x.h, .int .i64 x.e, .slice ua un uc] 95 (0, 0)) ∧ ((w.alloc (.cells #[.string x.n, .int .i64 x.t, .int .i64 x.h, .int .i64 x.e, .slice ua un uc] 95)).alloc (.cells #[.string ⟨#[]⟩, .int .i64 0, .int .i64 0, .int .i64 0, .slice none 0 0] 95)).heap[w.heap.size + 1]? = some (.cells #[.string ⟨#[]⟩, .int .i64 0, .int .i64 0, .int .i64 0, .slice none 0 0] 95 (0, 0)) ∧ Bx p w ((w.alloc (.cells #[.string x.n, .int .i64 x.t, .int .i64 x.h, .int .i64 x.e, .slice ua un uc] 95)).alloc (.cells #[.string ⟨#[]⟩, .int .i64 0, .int .i64 0, .int .i64 0, .slice none 0 0] 95))) :=
    ⟨h.up (bel2 _ _ _), (nest2 w _ _).1, (nest2 w _ _).2, Bx.of_below (bel2 _ _ _)⟩
  have HN : Hid (p < w.heap.size ∧ B ≤ w.heap.size ∧ bL < w.heap.size ∧ bS < w.heap.size) := ⟨h.plt, h.size, h.llt, h.slt⟩
  clear h
  unfold lkV
  go_enter Tryz.func100, Tryz.ntmps100
  go_upto_region 1 with fail
  obtain ⟨w1, hw1⟩ : ∃ w1, ((w.alloc (.cells #[.string x.n, .int .i64 x.t, .int .i64 x.h, .int .i64 x.e, .slice ua un uc] 95)).alloc (.cells #[.string ⟨#[]⟩, .int .i64 0, .int .i64 0, .int .i64 0, .slice none 0 0] 95)) = w1 := ⟨_, rfl⟩
  rw [hw1] at HB ⊢
  clear hw1
  obtain ⟨l0, m0⟩ := blk_cell HB.out.2.1 0 (x := .string x.n) rfl
  obtain ⟨l1, m1⟩ := blk_cell HB.out.2.1 1 (x := .int .i64 x.t) rfl
  obtain ⟨l2, m2⟩ := blk_cell HB.out.2.1 2 (x := .int .i64 x.h) rfl
  obtain ⟨l3, m3⟩ := blk_cell HB.out.2.1 3 (x := .int .i64 x.e) rfl
  have p0 := (blk_cell HB.out.1.hp 0 (x := .int .i64 T.tm) rfl).1
  have p1 := (blk_cell HB.out.1.hp 1 (x := .int .i64 T.nx) rfl).1
  have HC : Hid (BK w0 (((w1.setCell ⟨w.heap.size, 2, none⟩ (.int .i64 cl)).setCell ⟨w.heap.size, 1, none⟩ (.int .i64 T.nx)).setCell ⟨w.heap.size, 3, none⟩ (.int .i64 (T.tm + le))).drew B p bL bS T ps ∧ (((w1.setCell ⟨w.heap.size, 2, none⟩ (.int .i64 cl)).setCell ⟨w.heap.size, 1, none⟩ (.int .i64 T.nx)).setCell ⟨w.heap.size, 3, none⟩ (.int .i64 (T.tm + le))).drew.heap[w.heap.size]? = some (.cells #[.string x.n, .int .i64 T.nx, .int .i64 cl, .int .i64 (T.tm + le), .slice ua un uc] 95 (0, 0)) ∧ (((w1.setCell ⟨w.heap.size, 2, none⟩ (.int .i64 cl)).setCell ⟨w.heap.size, 1, none⟩ (.int .i64 T.nx)).setCell ⟨w.heap.size, 3, none⟩ (.int .i64 (T.tm + le))).drew.heap[w.heap.size + 1]? = some (.cells #[.string ⟨#[]⟩, .int .i64 0, .int .i64 0, .int .i64 0, .slice none 0 0] 95 (0, 0)) ∧ Bx p w (((w1.setCell ⟨w.heap.size, 2, none⟩ (.int .i64 cl)).setCell ⟨w.heap.size, 1, none⟩ (.int .i64 T.nx)).setCell ⟨w.heap.size, 3, none⟩ (.int .i64 (T.tm + le))).drew) := by
    obtain ⟨hb, hl, hr, hf⟩ := HB.out
    have k : ∀ {W : World} {cs : Array Value}, BK w0 W B p bL bS T ps → W.heap[w.heap.size]? = some (.cells cs 95 (0, 0)) → ∀ (i : Nat) (v : Value), BK w0 (W.setCell ⟨w.heap.size, i, none⟩ v) B p bL bS T ps := fun hW hy i v => hW.far hy (by have := HN.out; omega) (fun es c => by intro e; cases e) (fun cs => by intro e; cases e) HN.out.2.1 i v
    refine ⟨(k (k (k hb hl 2 _) (blk_set hl 2 _) 1 _) (blk_set (blk_set hl 2 _) 1 _) 3 _).up (Below.refl _ _).drew, blk_set (blk_set (blk_set hl 2 _) 1 _) 3 _, (blk_far (by omega) 3 _).trans ((blk_far (by omega) 1 _).trans ((blk_far (by omega) 2 _).trans hr)), ⟨by simpa using hf.size, fun b hbo n1 => ?_⟩⟩
    have hne : b ≠ w.heap.size := by omega
    exact (blk_far hne 3 _).trans ((blk_far hne 1 _).trans ((blk_far hne 2 _).trans (hf.block b hbo n1)))
  have HWR : Hid (IntKind.i64.wrap (T.tm + le) = T.tm + le) := by show _ = _; rw [IntKind.wrap_i64]; omega
  have HPN : Hid (p ≠ w.heap.size) := by show _ ≠ _; have := HN.out; omega
  go_region_held_law (fun W => W.cell? ⟨p, 0, none⟩ = some (.int .i64 T.tm) ∧ W.cell? ⟨p, 1, none⟩ = some (.int .i64 T.nx)) (first | exact ⟨p0, p1⟩ | exact ⟨cf HPN.out p0, cf HPN.out p1⟩ | exact ⟨cf HPN.out (cf HPN.out p0), cf HPN.out (cf HPN.out p1)⟩ | exact ⟨cf HPN.out (cf HPN.out (cf HPN.out p0)), cf HPN.out (cf HPN.out (cf HPN.out p1))⟩) (fail)
  all_goals
    go_upto_region 2 with fail
    rw [HWR.out]
    clear l0 m0 l1 m1 l2 m2 l3 m3 p0 p1
    generalize (((w1.setCell ⟨w.heap.size, 2, none⟩ (.int .i64 cl)).setCell ⟨w.heap.size, 1, none⟩ (.int .i64 T.nx)).setCell ⟨w.heap.size, 3, none⟩ (.int .i64 (T.tm + le))).drew = w2 at HC ⊢
    obtain ⟨p1, q1⟩ := blk_cell HC.out.1.hp 1 (x := .int .i64 T.nx) rfl
    have HD : Hid (BK w0 (w2.setCell ⟨p, 1, none⟩ (.int .i64 (T.nx + 1))) B p bL bS { T with nx := T.nx + 1 } ps ∧ (w2.setCell ⟨p, 1, none⟩ (.int .i64 (T.nx + 1))).heap[w.heap.size]? = some (.cells #[.string x.n, .int .i64 T.nx, .int .i64 cl, .int .i64 (T.tm + le), .slice ua un uc] 95 (0, 0)) ∧ (w2.setCell ⟨p, 1, none⟩ (.int .i64 (T.nx + 1))).heap[w.heap.size + 1]? = some (.cells #[.string ⟨#[]⟩, .int .i64 0, .int .i64 0, .int .i64 0, .slice none 0 0] 95 (0, 0)) ∧ Bx p w (w2.setCell ⟨p, 1, none⟩ (.int .i64 (T.nx + 1)))) := by
      obtain ⟨hb, hl, hr, hf⟩ := HC.out
      exact ⟨hb.box 1 _ rfl rfl rfl, (blk_far (Ne.symm HPN.out) 1 _).trans hl, (blk_far (by have := HN.out; omega) 1 _).trans hr, hf.trans (bxBox p w2 1 _)⟩
    go_upto_region 3 with fail
    clear HC p1 q1
    generalize w2.setCell ⟨p, 1, none⟩ (.int .i64 (T.nx + 1)) = w3 at HD ⊢
    have e0 := (blk_cell HD.out.2.1 0 (x := .string x.n) rfl).1
    have e1 := (blk_cell HD.out.2.1 1 (x := .int .i64 T.nx) rfl).1
    have e2 := (blk_cell HD.out.2.1 2 (x := .int .i64 cl) rfl).1
    have e3 := (blk_cell HD.out.2.1 3 (x := .int .i64 (T.tm + le)) rfl).1
    have e4 := (blk_cell HD.out.2.1 4 (x := .slice ua un uc) rfl).1
    obtain ⟨r0, s0⟩ := blk_cell HD.out.2.2.1 0 (x := .string ⟨#[]⟩) rfl
    obtain ⟨r1, s1⟩ := blk_cell HD.out.2.2.1 1 (x := .int .i64 0) rfl
    obtain ⟨r2, s2⟩ := blk_cell HD.out.2.2.1 2 (x := .int .i64 0) rfl
    obtain ⟨r3, s3⟩ := blk_cell HD.out.2.2.1 3 (x := .int .i64 0) rfl
    obtain ⟨r4, s4⟩ := blk_cell HD.out.2.2.1 4 (x := .slice none 0 0) rfl
    have HE : Hid (BK w0 (((((w3.setCell ⟨w.heap.size + 1, 0, none⟩ (.string x.n)).setCell ⟨w.heap.size + 1, 1, none⟩ (.int .i64 T.nx)).setCell ⟨w.heap.size + 1, 2, none⟩ (.int .i64 cl)).setCell ⟨w.heap.size + 1, 3, none⟩ (.int .i64 (T.tm + le))).setCell ⟨w.heap.size + 1, 4, none⟩ (.slice ua un uc)) B p bL bS { T with nx := T.nx + 1 } ps ∧ (((((w3.setCell ⟨w.heap.size + 1, 0, none⟩ (.string x.n)).setCell ⟨w.heap.size + 1, 1, none⟩ (.int .i64 T.nx)).setCell ⟨w.heap.size + 1, 2, none⟩ (.int .i64 cl)).setCell ⟨w.heap.size + 1, 3, none⟩ (.int .i64 (T.tm + le))).setCell ⟨w.heap.size + 1, 4, none⟩ (.slice ua un uc)).heap[w.heap.size + 1]? = some (.cells #[.string x.n, .int .i64 T.nx, .int .i64 cl, .int .i64 (T.tm + le), .slice ua un uc] 95 (0, 0)) ∧ Bx p w (((((w3.setCell ⟨w.heap.size + 1, 0, none⟩ (.string x.n)).setCell ⟨w.heap.size + 1, 1, none⟩ (.int .i64 T.nx)).setCell ⟨w.heap.size + 1, 2, none⟩ (.int .i64 cl)).setCell ⟨w.heap.size + 1, 3, none⟩ (.int .i64 (T.tm + le))).setCell ⟨w.heap.size + 1, 4, none⟩ (.slice ua un uc))) := by
      obtain ⟨hb, hl, hr, hf⟩ := HD.out
      exact ⟨bk5 hb hr (by have := HN.out; omega) (by have := HN.out; omega) _ _ _ _ _, set5 hr _ _ _ _ _, ⟨by simpa using hf.size, fun b hbo n1 => (far5 (by omega) _ _ _ _ _).trans (hf.block b hbo n1)⟩⟩
    clear HD
    go_wp2_with fail
    generalize (((((w3.setCell ⟨w.heap.size + 1, 0, none⟩ (.string x.n)).setCell ⟨w.heap.size + 1, 1, none⟩ (.int .i64 T.nx)).setCell ⟨w.heap.size + 1, 2, none⟩ (.int .i64 cl)).setCell ⟨w.heap.size + 1, 3, none⟩ (.int .i64 (T.tm + le))).setCell ⟨w.heap.size + 1, 4, none⟩ (.slice ua un uc)) = wf at HE ⊢
    have d0 := (blk_cell HE.out.2.1 0 (x := .string x.n) rfl).1
    have d1 := (blk_cell HE.out.2.1 1 (x := .int .i64 T.nx) rfl).1
    have d2 := (blk_cell HE.out.2.1 2 (x := .int .i64 cl) rfl).1
    have d3 := (blk_cell HE.out.2.1 3 (x := .int .i64 (T.tm + le)) rfl).1
    have d4 := (blk_cell HE.out.2.1 4 (x := .slice ua un uc) rfl).1
    exact bodyPost_ret (v := .agg #[.string x.n, .int .i64 T.nx, .int .i64 cl, .int .i64 (T.tm + le), .slice ua un uc]) (by simp [results, Tryz.results100, go_sem, d0, d1, d2, d3, d4]) rfl ⟨rfl, HE.out.1, HE.out.2.2⟩
end
end Go.Proofs.YtlgfeohoebmbcaaGreat.Jc
