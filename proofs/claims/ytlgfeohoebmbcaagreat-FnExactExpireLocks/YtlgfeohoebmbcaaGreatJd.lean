/- The program's lockBook: a lock is freed. -/
import Derived.Test.YtlgfeohoebmbcaaGreatJc
namespace Go.Proofs.YtlgfeohoebmbcaaGreat.Jd
open Go.RowKit Go.Proofs.YtlgfeohoebmbcaaGreat.Sl Go.Proofs.YtlgfeohoebmbcaaGreat.By Go.Proofs.YtlgfeohoebmbcaaGreat.Ap Go.Proofs.YtlgfeohoebmbcaaGreat.Tb Go.Proofs.YtlgfeohoebmbcaaGreat.Tw Go.Proofs.YtlgfeohoebmbcaaGreat.Mw Go.Proofs.YtlgfeohoebmbcaaGreat.Wa Go.Proofs.YtlgfeohoebmbcaaGreat.Bk Go.Proofs.YtlgfeohoebmbcaaGreat.Tp Go.Proofs.YtlgfeohoebmbcaaGreat.Da Go.Proofs.YtlgfeohoebmbcaaGreat.Ja Go.Proofs.YtlgfeohoebmbcaaGreat.Jb Go.Proofs.YtlgfeohoebmbcaaGreat.Jc
open Go.Proofs.YtlgfeohoebmbcaaGreat.Lo (LkA uV clL OwnL own_block kind_ne Apart nest2)
open Go.Proofs.YtlgfeohoebmbcaaGreat.Tx (blk_cell blk_set blk_far blk_new bel_new)
section
variable {w0 w : World} {B p bL bS : Nat} {T : Tab} {ps : List LkA}
theorem frL_nil {tm nx : Int} {y : Lk} (h : y.ws = []) : frL tm nx y = { y with h := -1, e := 0 } ∧ frN nx y = nx := by unfold frL frN; rw [h]; exact ⟨rfl, rfl⟩
theorem frL_cons {tm nx : Int} {y : Lk} {z : Wt} {r : List Wt} (h : y.ws = z :: r) : frL tm nx y = grL tm nx { y with ws := r } z.c z.l ∧ frN nx y = nx + 1 := by unfold frL frN; rw [h]; exact ⟨rfl, rfl⟩
set_option maxRecDepth 100000 in
set_option maxHeartbeats 3200000 in
theorem free_any (h : BK w0 w B p bL bS T ps) (x : Lk) (ua : Option Addr) (uc : Nat) (hw : OwnO w B (.slice ua x.ws.length uc) x.ws) (hle : ∀ z ∈ x.ws, 0 ≤ z.l ∧ z.l ≤ 1000) (ht0 : 0 ≤ T.tm) (ht1 : T.tm ≤ 1000000000) (hn0 : 1 ≤ T.nx) (hn1 : T.nx ≤ 999999) (hcap : x.ws.length ≤ 1000) :
    Calls Tryz.prog 75 #[.pointer (some ⟨p, 0, none⟩), lkV x (.slice ua x.ws.length uc)] w fun e w' => ∃ ua' uc', e = .returned (lkV (frL T.tm T.nx x) (.slice ua' (frL T.tm T.nx x).ws.length uc')) ∧ OwnO w' B (.slice ua' (frL T.tm T.nx x).ws.length uc') (frL T.tm T.nx x).ws ∧ Value.ownBlock (.slice ua' (frL T.tm T.nx x).ws.length uc') = Value.ownBlock (.slice ua x.ws.length uc) ∧ BK w0 w' B p bL bS { T with nx := frN T.nx x } ps ∧ Bx p w w' := by
  obtain ⟨xn, xt, xh, xe, ws⟩ := x
  dsimp only at hw hle hcap ⊢
  have HH : Hid (BK w0 w B p bL bS T ps) := h
  have HO : Hid (OwnO w B (.slice ua ws.length uc) ws) := hw
  have HLE : Hid (∀ z ∈ ws, 0 ≤ z.l ∧ z.l ≤ 1000) := hle
  clear h hw hle
  unfold lkV
  cases ws with
  | nil =>
    have HF : Hid (frL T.tm T.nx ⟨xn, xt, xh, xe, []⟩ = ⟨xn, xt, -1, 0, []⟩ ∧ frN T.nx ⟨xn, xt, xh, xe, []⟩ = T.nx) := frL_nil rfl
    rw [HF.out.1, HF.out.2]
    dsimp only [List.length_nil] at HO ⊢
    have HB : Hid (Below w.heap.size w ((w.alloc (.cells #[.string xn, .int .i64 xt, .int .i64 xh, .int .i64 xe, .slice ua 0 uc] 95)).alloc (.cells #[.string ⟨#[]⟩, .int .i64 0, .int .i64 0, .int .i64 0, .slice none 0 0] 95)) ∧ ((w.alloc (.cells #[.string xn, .int .i64 xt, .int .i64 xh, .int .i64 xe, .slice ua 0 uc] 95)).alloc (.cells #[.string ⟨#[]⟩, .int .i64 0, .int .i64 0, .int .i64 0, .slice none 0 0] 95)).heap[w.heap.size]? = some (.cells #[.string xn, .int .i64 xt, .int .i64 xh, .int .i64 xe, .slice ua 0 uc] 95 (0, 0)) ∧ ((w.alloc (.cells #[.string xn, .int .i64 xt, .int .i64 xh, .int .i64 xe, .slice ua 0 uc] 95)).alloc (.cells #[.string ⟨#[]⟩, .int .i64 0, .int .i64 0, .int .i64 0, .slice none 0 0] 95)).heap[w.heap.size + 1]? = some (.cells #[.string ⟨#[]⟩, .int .i64 0, .int .i64 0, .int .i64 0, .slice none 0 0] 95 (0, 0))) :=
      ⟨bel2 _ _ _, (nest2 w _ _).1, (nest2 w _ _).2⟩
    go_enter Tryz.func75, Tryz.ntmps75
    go_upto_region 1 with fail
    obtain ⟨w1, hw1⟩ : ∃ w1, ((w.alloc (.cells #[.string xn, .int .i64 xt, .int .i64 xh, .int .i64 xe, .slice ua 0 uc] 95)).alloc (.cells #[.string ⟨#[]⟩, .int .i64 0, .int .i64 0, .int .i64 0, .slice none 0 0] 95)) = w1 := ⟨_, rfl⟩
    rw [hw1] at HB ⊢
    clear hw1
    obtain ⟨l0, lf0⟩ := blk_cell HB.out.2.1 0 (x := .string xn) rfl
    obtain ⟨l1, lf1⟩ := blk_cell HB.out.2.1 1 (x := .int .i64 xt) rfl
    obtain ⟨l2, lf2⟩ := blk_cell HB.out.2.1 2 (x := .int .i64 xh) rfl
    obtain ⟨l3, lf3⟩ := blk_cell HB.out.2.1 3 (x := .int .i64 xe) rfl
    obtain ⟨l4, lf4⟩ := blk_cell HB.out.2.1 4 (x := .slice ua 0 uc) rfl
    obtain ⟨r0, rf0⟩ := blk_cell HB.out.2.2 0 (x := .string ⟨#[]⟩) rfl
    obtain ⟨r1, rf1⟩ := blk_cell HB.out.2.2 1 (x := .int .i64 0) rfl
    obtain ⟨r2, rf2⟩ := blk_cell HB.out.2.2 2 (x := .int .i64 0) rfl
    obtain ⟨r3, rf3⟩ := blk_cell HB.out.2.2 3 (x := .int .i64 0) rfl
    obtain ⟨r4, rf4⟩ := blk_cell HB.out.2.2 4 (x := .slice none 0 0) rfl
    have HC : Hid (Below w.heap.size w (((((((w1.setCell ⟨w.heap.size, 2, none⟩ (.int .i64 (-1))).setCell ⟨w.heap.size, 3, none⟩ (.int .i64 0)).setCell ⟨w.heap.size + 1, 0, none⟩ (.string xn)).setCell ⟨w.heap.size + 1, 1, none⟩ (.int .i64 xt)).setCell ⟨w.heap.size + 1, 2, none⟩ (.int .i64 (-1))).setCell ⟨w.heap.size + 1, 3, none⟩ (.int .i64 0)).setCell ⟨w.heap.size + 1, 4, none⟩ (.slice ua 0 uc)) ∧ (((((((w1.setCell ⟨w.heap.size, 2, none⟩ (.int .i64 (-1))).setCell ⟨w.heap.size, 3, none⟩ (.int .i64 0)).setCell ⟨w.heap.size + 1, 0, none⟩ (.string xn)).setCell ⟨w.heap.size + 1, 1, none⟩ (.int .i64 xt)).setCell ⟨w.heap.size + 1, 2, none⟩ (.int .i64 (-1))).setCell ⟨w.heap.size + 1, 3, none⟩ (.int .i64 0)).setCell ⟨w.heap.size + 1, 4, none⟩ (.slice ua 0 uc)).heap[w.heap.size + 1]? = some (.cells #[.string xn, .int .i64 xt, .int .i64 (-1), .int .i64 0, .slice ua 0 uc] 95 (0, 0)) ∧ (((w1.setCell ⟨w.heap.size, 2, none⟩ (.int .i64 (-1))).setCell ⟨w.heap.size, 3, none⟩ (.int .i64 0)).heap[w.heap.size]? = some (.cells #[.string xn, .int .i64 xt, .int .i64 (-1), .int .i64 0, .slice ua 0 uc] 95 (0, 0)))) := by
      obtain ⟨hb, hl, hr⟩ := HB.out
      have b1 : w.heap.size ≤ w.heap.size + 1 := Nat.le_succ _
      refine ⟨(Below.setCell (Below.setCell (Below.setCell (Below.setCell (Below.setCell (Below.setCell (Below.setCell hb (p := ⟨w.heap.size, 2, none⟩) (Nat.le_refl _) (.int .i64 (-1))) (p := ⟨w.heap.size, 3, none⟩) (Nat.le_refl _) (.int .i64 0)) (p := ⟨w.heap.size + 1, 0, none⟩) (b1) (.string xn)) (p := ⟨w.heap.size + 1, 1, none⟩) (b1) (.int .i64 xt)) (p := ⟨w.heap.size + 1, 2, none⟩) (b1) (.int .i64 (-1))) (p := ⟨w.heap.size + 1, 3, none⟩) (b1) (.int .i64 0)) (p := ⟨w.heap.size + 1, 4, none⟩) (b1) (.slice ua 0 uc)), set5 ((blk_far (by omega) 3 _).trans ((blk_far (by omega) 2 _).trans hr)) _ _ _ _ _, blk_set (blk_set hl 2 _) 3 _⟩
    go_wp2_with fail
    generalize (((((((w1.setCell ⟨w.heap.size, 2, none⟩ (.int .i64 (-1))).setCell ⟨w.heap.size, 3, none⟩ (.int .i64 0)).setCell ⟨w.heap.size + 1, 0, none⟩ (.string xn)).setCell ⟨w.heap.size + 1, 1, none⟩ (.int .i64 xt)).setCell ⟨w.heap.size + 1, 2, none⟩ (.int .i64 (-1))).setCell ⟨w.heap.size + 1, 3, none⟩ (.int .i64 0)).setCell ⟨w.heap.size + 1, 4, none⟩ (.slice ua 0 uc)) = wf at HC ⊢
    have d0 := (blk_cell HC.out.2.1 0 (x := .string xn) rfl).1
    have d1 := (blk_cell HC.out.2.1 1 (x := .int .i64 xt) rfl).1
    have d2 := (blk_cell HC.out.2.1 2 (x := .int .i64 (-1)) rfl).1
    have d3 := (blk_cell HC.out.2.1 3 (x := .int .i64 0) rfl).1
    have d4 := (blk_cell HC.out.2.1 4 (x := .slice ua 0 uc) rfl).1
    exact bodyPost_ret (v := .agg #[.string xn, .int .i64 xt, .int .i64 (-1), .int .i64 0, .slice ua 0 uc]) (by simp [results, Tryz.results75, go_sem, d0, d1, d2, d3, d4]) rfl ⟨ua, uc, rfl, HO.out.below HC.out.1, rfl, HH.out.up HC.out.1, Bx.of_below HC.out.1⟩
  | cons z r =>
    have HF : Hid (frL T.tm T.nx ⟨xn, xt, xh, xe, z :: r⟩ = grL T.tm T.nx ⟨xn, xt, xh, xe, r⟩ z.c z.l ∧ frN T.nx ⟨xn, xt, xh, xe, z :: r⟩ = T.nx + 1) := frL_cons rfl
    rw [HF.out.1, HF.out.2]
    dsimp only [List.length_cons] at HO hcap ⊢
    have HZ : Hid (0 ≤ z.l ∧ z.l ≤ 1000) := HLE.out z (List.mem_cons_self ..)
    obtain ⟨g, o, HG, HR0, HR1⟩ : ∃ g o, ua = some ⟨g, o, none⟩ ∧ w.cell? ⟨g, o, none⟩ = some (.int .i64 z.c) ∧ w.cell? ⟨g, o + 1, none⟩ = some (.int .i64 z.l) := by
      have hr := HO.out.row
      obtain ⟨b, off, hab, _, c0, c1⟩ := RowG.at hr rfl (i := 0) (x := z) rfl
      exact ⟨b, off, hab, by simpa using c0, by simpa using c1⟩
    subst HG
    have HB : Hid (Below w.heap.size w ((w.alloc (.cells #[.string xn, .int .i64 xt, .int .i64 xh, .int .i64 xe, .slice (some ⟨g, o, none⟩) (r.length + 1) uc] 95)).alloc (.cells #[.string ⟨#[]⟩, .int .i64 0, .int .i64 0, .int .i64 0, .slice none 0 0] 95)) ∧ ((w.alloc (.cells #[.string xn, .int .i64 xt, .int .i64 xh, .int .i64 xe, .slice (some ⟨g, o, none⟩) (r.length + 1) uc] 95)).alloc (.cells #[.string ⟨#[]⟩, .int .i64 0, .int .i64 0, .int .i64 0, .slice none 0 0] 95)).heap[w.heap.size]? = some (.cells #[.string xn, .int .i64 xt, .int .i64 xh, .int .i64 xe, .slice (some ⟨g, o, none⟩) (r.length + 1) uc] 95 (0, 0)) ∧ ((w.alloc (.cells #[.string xn, .int .i64 xt, .int .i64 xh, .int .i64 xe, .slice (some ⟨g, o, none⟩) (r.length + 1) uc] 95)).alloc (.cells #[.string ⟨#[]⟩, .int .i64 0, .int .i64 0, .int .i64 0, .slice none 0 0] 95)).heap[w.heap.size + 1]? = some (.cells #[.string ⟨#[]⟩, .int .i64 0, .int .i64 0, .int .i64 0, .slice none 0 0] 95 (0, 0)) ∧ ((w.alloc (.cells #[.string xn, .int .i64 xt, .int .i64 xh, .int .i64 xe, .slice (some ⟨g, o, none⟩) (r.length + 1) uc] 95)).alloc (.cells #[.string ⟨#[]⟩, .int .i64 0, .int .i64 0, .int .i64 0, .slice none 0 0] 95)).heap.size = w.heap.size + 1 + 1) :=
      ⟨bel2 _ _ _, (nest2 w _ _).1, (nest2 w _ _).2, by rw [Bk.size_new, Bk.size_new]⟩
    have HG : Hid (g < w.heap.size) := (HO.out.lt g rfl).2
    go_enter Tryz.func75, Tryz.ntmps75
    go_upto_region 1 with fail
    obtain ⟨w1, hw1⟩ : ∃ w1, ((w.alloc (.cells #[.string xn, .int .i64 xt, .int .i64 xh, .int .i64 xe, .slice (some ⟨g, o, none⟩) (r.length + 1) uc] 95)).alloc (.cells #[.string ⟨#[]⟩, .int .i64 0, .int .i64 0, .int .i64 0, .slice none 0 0] 95)) = w1 := ⟨_, rfl⟩
    rw [hw1] at HB ⊢
    clear hw1
    have HS : Hid (∀ q, q < w.heap.size → w1.heap[q]? = w.heap[q]?) := HB.out.1.block
    have R0 := (World.cell?_of_block (a := ⟨g, o, none⟩) (HS.out g HG.out)).trans HR0
    have R1 := (World.cell?_of_block (a := ⟨g, o + 1, none⟩) (HS.out g HG.out)).trans HR1
    have l4 := (blk_cell HB.out.2.1 4 (x := .slice (some ⟨g, o, none⟩) (r.length + 1) uc) rfl).1
    have hne : ¬ ((r.length : Int) + 1 = 0) := by omega
    go_upto_region 5 with fail
    obtain ⟨y, HY⟩ : ∃ y, Hid (w1.heap.size = y) := ⟨_, rfl⟩
    rw [HY.out]
    have HD : Hid (Below w.heap.size w (w1.alloc (.cells #[.int .i64 z.c, .int .i64 z.l] 111)) ∧ (w1.alloc (.cells #[.int .i64 z.c, .int .i64 z.l] 111)).heap[w.heap.size]? = some (.cells #[.string xn, .int .i64 xt, .int .i64 xh, .int .i64 xe, .slice (some ⟨g, o, none⟩) (r.length + 1) uc] 95 (0, 0)) ∧ (w1.alloc (.cells #[.int .i64 z.c, .int .i64 z.l] 111)).heap[w.heap.size + 1]? = some (.cells #[.string ⟨#[]⟩, .int .i64 0, .int .i64 0, .int .i64 0, .slice none 0 0] 95 (0, 0)) ∧ (w1.alloc (.cells #[.int .i64 z.c, .int .i64 z.l] 111)).heap[y]? = some (.cells #[.int .i64 z.c, .int .i64 z.l] 111 (0, 0)) ∧ y = w.heap.size + 1 + 1) := by
      obtain ⟨hb, hl, hr, hs⟩ := HB.out
      have hy := HY.out
      subst hy
      exact ⟨hb.alloc hb.size _, (Below.heap_alloc _ _ _ (by omega)).trans hl, (Below.heap_alloc _ _ _ (by omega)).trans hr, blk_new _ _ _, hs⟩
    clear HB HS R0 R1 l4 HR0 HR1 HY
    generalize w1.alloc (.cells #[.int .i64 z.c, .int .i64 z.l] 111) = w2 at HD ⊢
    obtain ⟨l4, m4⟩ := blk_cell HD.out.2.1 4 (x := .slice (some ⟨g, o, none⟩) (r.length + 1) uc) rfl
    go_upto_region 6 with fail
    obtain ⟨o', HIF, HOO⟩ : ∃ o', Hid ((if uc = 1 then some (⟨g, o, none⟩ : Addr) else some ⟨g, o + 2, none⟩) = some ⟨g, o', none⟩) ∧ Hid (o' = o + 2 ∨ (o' = o ∧ uc = 1)) := by
      by_cases h1 : uc = 1
      · exact ⟨o, if_pos h1, .inr ⟨rfl, h1⟩⟩
      · exact ⟨o + 2, if_neg h1, .inl rfl⟩
    rw [HIF.out]
    have HE : Hid (Below w.heap.size w (w2.setCell ⟨w.heap.size, 4, none⟩ (.slice (some ⟨g, o', none⟩) r.length (uc - 1))) ∧ (w2.setCell ⟨w.heap.size, 4, none⟩ (.slice (some ⟨g, o', none⟩) r.length (uc - 1))).heap[w.heap.size]? = some (.cells #[.string xn, .int .i64 xt, .int .i64 xh, .int .i64 xe, .slice (some ⟨g, o', none⟩) r.length (uc - 1)] 95 (0, 0)) ∧ (w2.setCell ⟨w.heap.size, 4, none⟩ (.slice (some ⟨g, o', none⟩) r.length (uc - 1))).heap[w.heap.size + 1]? = some (.cells #[.string ⟨#[]⟩, .int .i64 0, .int .i64 0, .int .i64 0, .slice none 0 0] 95 (0, 0)) ∧ (w2.setCell ⟨w.heap.size, 4, none⟩ (.slice (some ⟨g, o', none⟩) r.length (uc - 1))).heap[y]? = some (.cells #[.int .i64 z.c, .int .i64 z.l] 111 (0, 0)) ∧ y = w.heap.size + 1 + 1 ∧ OwnO (w2.setCell ⟨w.heap.size, 4, none⟩ (.slice (some ⟨g, o', none⟩) r.length (uc - 1))) B (.slice (some ⟨g, o', none⟩) r.length (uc - 1)) r) := by
      obtain ⟨hb, hl, hr, hy, hs⟩ := HD.out
      have hb3 := Below.setCell hb (p := ⟨w.heap.size, 4, none⟩) (Nat.le_refl _) (.slice (some ⟨g, o', none⟩) r.length (uc - 1))
      exact ⟨hb3, blk_set hl 4 _, (blk_far (by omega) 4 _).trans hr, (blk_far (by omega) 4 _).trans hy, hs, (HO.out.tail o' HOO.out).below hb3⟩
    clear HD l4 m4 HIF HOO
    generalize (w2.setCell ⟨w.heap.size, 4, none⟩ (.slice (some ⟨g, o', none⟩) r.length (uc - 1))) = w3 at HE ⊢
    have e0 := (blk_cell HE.out.2.1 0 (x := .string xn) rfl).1
    have e1 := (blk_cell HE.out.2.1 1 (x := .int .i64 xt) rfl).1
    have e2 := (blk_cell HE.out.2.1 2 (x := .int .i64 xh) rfl).1
    have e3 := (blk_cell HE.out.2.1 3 (x := .int .i64 xe) rfl).1
    have e4 := (blk_cell HE.out.2.1 4 (x := .slice (some ⟨g, o', none⟩) r.length (uc - 1)) rfl).1
    have y0 := (blk_cell HE.out.2.2.2.1 0 (x := .int .i64 z.c) rfl).1
    have y1 := (blk_cell HE.out.2.2.2.1 1 (x := .int .i64 z.l) rfl).1
    have HGR : Calls Tryz.prog 100 #[.pointer (some ⟨p, 0, none⟩), .agg #[.string xn, .int .i64 xt, .int .i64 xh, .int .i64 xe, .slice (some ⟨g, o', none⟩) r.length (uc - 1)], .int .i64 z.c, .int .i64 z.l] w3 fun e w' => e = .returned (.agg #[.string xn, .int .i64 T.nx, .int .i64 z.c, .int .i64 (T.tm + z.l), .slice (some ⟨g, o', none⟩) r.length (uc - 1)]) ∧ BK w0 w' B p bL bS { T with nx := T.nx + 1 } ps ∧ Bx p w3 w' :=
      grant_any (HH.out.up HE.out.1) ⟨xn, xt, xh, xe, r⟩ (some ⟨g, o', none⟩) r.length (uc - 1) z.c z.l ht0 ht1 hn0 hn1 HZ.out.1 HZ.out.2
    have HPL : Hid (p < w.heap.size ∧ B ≤ w.heap.size) := ⟨HH.out.plt, HH.out.size⟩
    go_wp2_with (go_at_call 100; refine HGR.mono ?_; rintro e w4 ⟨rfl, hb4, hx4⟩; have H4 : Hid (BK w0 w4 B p bL bS { T with nx := T.nx + 1 } ps ∧ Bx p w3 w4 ∧ w4.heap[w.heap.size + 1]? = some (.cells #[.string ⟨#[]⟩, .int .i64 0, .int .i64 0, .int .i64 0, .slice none 0 0] 95 (0, 0))) := ⟨hb4, hx4, (hx4.block _ (Array.getElem?_eq_some_iff.1 HE.out.2.2.1).1 (by have := HPL.out; omega)).trans HE.out.2.2.1⟩; obtain ⟨r0, s0⟩ := blk_cell H4.out.2.2 0 (x := .string ⟨#[]⟩) rfl; obtain ⟨r1, s1⟩ := blk_cell H4.out.2.2 1 (x := .int .i64 0) rfl; obtain ⟨r2, s2⟩ := blk_cell H4.out.2.2 2 (x := .int .i64 0) rfl; obtain ⟨r3, s3⟩ := blk_cell H4.out.2.2 3 (x := .int .i64 0) rfl; obtain ⟨r4, s4⟩ := blk_cell H4.out.2.2 4 (x := .slice none 0 0) rfl; clear hb4 hx4)
    have H5 : Hid (BK w0 (((((w4.setCell ⟨w.heap.size + 1, 0, none⟩ (.string xn)).setCell ⟨w.heap.size + 1, 1, none⟩ (.int .i64 T.nx)).setCell ⟨w.heap.size + 1, 2, none⟩ (.int .i64 z.c)).setCell ⟨w.heap.size + 1, 3, none⟩ (.int .i64 (T.tm + z.l))).setCell ⟨w.heap.size + 1, 4, none⟩ (.slice (some ⟨g, o', none⟩) r.length (uc - 1))) B p bL bS { T with nx := T.nx + 1 } ps ∧ (((((w4.setCell ⟨w.heap.size + 1, 0, none⟩ (.string xn)).setCell ⟨w.heap.size + 1, 1, none⟩ (.int .i64 T.nx)).setCell ⟨w.heap.size + 1, 2, none⟩ (.int .i64 z.c)).setCell ⟨w.heap.size + 1, 3, none⟩ (.int .i64 (T.tm + z.l))).setCell ⟨w.heap.size + 1, 4, none⟩ (.slice (some ⟨g, o', none⟩) r.length (uc - 1))).heap[w.heap.size + 1]? = some (.cells #[.string xn, .int .i64 T.nx, .int .i64 z.c, .int .i64 (T.tm + z.l), .slice (some ⟨g, o', none⟩) r.length (uc - 1)] 95 (0, 0)) ∧ Bx p w (((((w4.setCell ⟨w.heap.size + 1, 0, none⟩ (.string xn)).setCell ⟨w.heap.size + 1, 1, none⟩ (.int .i64 T.nx)).setCell ⟨w.heap.size + 1, 2, none⟩ (.int .i64 z.c)).setCell ⟨w.heap.size + 1, 3, none⟩ (.int .i64 (T.tm + z.l))).setCell ⟨w.heap.size + 1, 4, none⟩ (.slice (some ⟨g, o', none⟩) r.length (uc - 1))) ∧ OwnO (((((w4.setCell ⟨w.heap.size + 1, 0, none⟩ (.string xn)).setCell ⟨w.heap.size + 1, 1, none⟩ (.int .i64 T.nx)).setCell ⟨w.heap.size + 1, 2, none⟩ (.int .i64 z.c)).setCell ⟨w.heap.size + 1, 3, none⟩ (.int .i64 (T.tm + z.l))).setCell ⟨w.heap.size + 1, 4, none⟩ (.slice (some ⟨g, o', none⟩) r.length (uc - 1))) B (.slice (some ⟨g, o', none⟩) r.length (uc - 1)) r) := by
      obtain ⟨hb, hx, hr⟩ := H4.out
      have hp := HPL.out
      have hg := HG.out
      have hgp : g ≠ p := fun e => (HO.out.kind HH.out.hp (fun cs => by intro e; cases e)) (by show some g = some p; rw [e])
      have hbel := HE.out.1
      refine ⟨bk5 hb hr (by omega) (by omega) _ _ _ _ _, set5 hr _ _ _ _ _, ⟨by have := hx.size; have := hbel.size; simp; omega, fun b hb1 hn => (far5 (by omega) _ _ _ _ _).trans ((hx.block b (Nat.lt_of_lt_of_le hb1 hbel.size) hn).trans (hbel.block b hb1))⟩, HE.out.2.2.2.2.2.kept fun k hk => ?_⟩
      cases hk
      exact (far5 (show g ≠ w.heap.size + 1 by omega) _ _ _ _ _).trans (hx.block g (Nat.lt_of_lt_of_le hg hbel.size) hgp)
    clear H4 HE HGR
    generalize (((((w4.setCell ⟨w.heap.size + 1, 0, none⟩ (.string xn)).setCell ⟨w.heap.size + 1, 1, none⟩ (.int .i64 T.nx)).setCell ⟨w.heap.size + 1, 2, none⟩ (.int .i64 z.c)).setCell ⟨w.heap.size + 1, 3, none⟩ (.int .i64 (T.tm + z.l))).setCell ⟨w.heap.size + 1, 4, none⟩ (.slice (some ⟨g, o', none⟩) r.length (uc - 1))) = wf at H5 ⊢
    have d0 := (blk_cell H5.out.2.1 0 (x := .string xn) rfl).1
    have d1 := (blk_cell H5.out.2.1 1 (x := .int .i64 T.nx) rfl).1
    have d2 := (blk_cell H5.out.2.1 2 (x := .int .i64 z.c) rfl).1
    have d3 := (blk_cell H5.out.2.1 3 (x := .int .i64 (T.tm + z.l)) rfl).1
    have d4 := (blk_cell H5.out.2.1 4 (x := .slice (some ⟨g, o', none⟩) r.length (uc - 1)) rfl).1
    exact bodyPost_ret (v := .agg #[.string xn, .int .i64 T.nx, .int .i64 z.c, .int .i64 (T.tm + z.l), .slice (some ⟨g, o', none⟩) r.length (uc - 1)]) (by simp [results, Tryz.results75, go_sem, d0, d1, d2, d3, d4]) rfl ⟨some ⟨g, o', none⟩, uc - 1, rfl, H5.out.2.2.2, rfl, H5.out.1, H5.out.2.2.1⟩
end
end Go.Proofs.YtlgfeohoebmbcaaGreat.Jd
