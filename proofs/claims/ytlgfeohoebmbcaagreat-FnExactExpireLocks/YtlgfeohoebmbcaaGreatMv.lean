/- The laws' copies of tables, in new memory that may be written. -/
import Derived.Test.YtlgfeohoebmbcaaGreatMw
namespace Go.Proofs.YtlgfeohoebmbcaaGreat.Mw
open Go.RowKit Go.Proofs.YtlgfeohoebmbcaaGreat.Sl Go.Proofs.YtlgfeohoebmbcaaGreat.By Go.Proofs.YtlgfeohoebmbcaaGreat.Ap Go.Proofs.YtlgfeohoebmbcaaGreat.Tx Go.Proofs.YtlgfeohoebmbcaaGreat.Tb Go.Proofs.YtlgfeohoebmbcaaGreat.Tw

set_option maxRecDepth 100000 in
set_option maxHeartbeats 800000 in
theorem toWaiterSW_any (v : Value) (xs : List Wt) (w : World) (h : RowW w v xs) (hl : xs.length ≤ 1048576) :
    Calls Tryz.prog 94 #[v] w fun e w' => ∃ g, e = .returned (.slice (some ⟨g, 0, none⟩) xs.length xs.length) ∧ w.heap.size ≤ g ∧ g < w'.heap.size ∧ (∀ i x, xs[i]? = some x → EW w' g (i * 2) x) ∧ Below w.heap.size w w' ∧ Wr w' g (xs.length * 2) := by
  have HR : Hid (RowW w v xs) := h
  obtain ⟨a, cap, rfl⟩ := RowG.slice h
  clear h
  obtain ⟨i0, hi, hz0, hz1, hz2⟩ := info_parts info_toWaiterS
  have hmk := run_make (P := Tryz.prog) w 93 111 i0 (.agg #[.int .i64 0, .int .i64 0]) Tryz.underlying93 hi hz0 .i64 .i64 (xs.length : Int) (xs.length : Int) (by omega) (by omega) (by rw [hz2]; omega) (by omega)
  have hA0 : Cop_toWaiterS xs 0 (madeCells (Value.agg #[.int .i64 0, .int .i64 0]).cells ((xs.length : Int).toNat * i0.size)) := ⟨by rw [hz1]; simp [madeCells, Value.cells], fun j x hj => absurd hj (by omega)⟩
  generalize madeCells (Value.agg #[.int .i64 0, .int .i64 0]).cells ((xs.length : Int).toNat * i0.size) = A0 at hmk hA0
  rw [Int.toNat_natCast] at hmk
  go_enter Tryz.func94, Tryz.ntmps94
  go_wp2_with fail
  clear hmk
  go_loopw [4] (fun i wr => ∃ k : Nat, ∃ A : Array Value, k ≤ xs.length ∧ i = .int .i64 k ∧ Hid (wr.heap[w.heap.size]? = some (.cells A 111 (0, 0)) ∧ Cop_toWaiterS xs k A ∧ Below w.heap.size w wr)) (fun i _ => xs.length - (intOf i).toNat)
  case atStart => exact ⟨0, A0, by omega, rfl, ⟨heap_alloc_new w _, hA0, bel_new _ _⟩⟩
  case round =>
    clear hA0
    obtain ⟨k, A, hk, rfl, HA⟩ := hrel
    by_cases hlt : k < xs.length
    · obtain ⟨x, hx⟩ := Tw.get_at hlt
      obtain ⟨b, off, rfl, hbl, c0, c1⟩ := RowG.at (HR.out.below HA.out.2.2) rfl hx
      have HX : Hid (xs[k]? = some x) := hx
      clear hx
      go_wp2_with fail
      refine (toWaiter_any x wr).mono ?_
      rintro e w2 ⟨rfl, b2⟩
      have hg := (Array.getElem?_eq_some_iff.1 HA.out.1).1
      have HA2 : Hid (w2.heap[w.heap.size]? = some (.cells A 111 (0, 0)) ∧ Cop_toWaiterS xs k A ∧ Below w.heap.size w w2) := ⟨(b2.block _ hg).trans HA.out.1, HA.out.2.1, HA.out.2.2.trans (b2.mono HA.out.2.2.size)⟩
      clear b2 c0 c1 HA
      have hsz : k * 2 + 1 < A.size := by rw [HA2.out.2.1.1]; omega
      obtain ⟨d0, f0⟩ := blk_cell HA2.out.1 (k * 2) (x := A[k * 2]) (Array.getElem?_eq_getElem (by omega))
      obtain ⟨d1, f1⟩ := blk_cell HA2.out.1 (k * 2 + 1) (x := A[k * 2 + 1]) (Array.getElem?_eq_getElem (by omega))
      unfold wtV
      go_wp2_with fail
      refine ⟨⟨k + 1, ((A).setIfInBounds (k * 2) (.int .i64 x.c)).setIfInBounds (k * 2 + 1) (.int .i64 x.l), by omega, by go_num, ⟨(blk_set (blk_set HA2.out.1 _ _) _ _), cop_toWaiterS HA2.out.2.1 HX.out, ?_⟩⟩, by simp [intOf]; omega⟩
      exact (Below.setCell (Below.setCell HA2.out.2.2 (p := ⟨w.heap.size, k * 2, none⟩) (Nat.le_refl _) (.int .i64 x.c)) (p := ⟨w.heap.size, k * 2 + 1, none⟩) (Nat.le_refl _) (.int .i64 x.l))
    · obtain rfl : k = xs.length := by omega
      go_wp2_with fail
      go_ret
      refine ⟨w.heap.size, rfl, Nat.le_refl _, (Array.getElem?_eq_some_iff.1 HA.out.1).1, fun i x hi => ?_, HA.out.2.2, ⟨A, _, HA.out.1, Nat.le_of_eq HA.out.2.1.1.symm⟩⟩
      obtain ⟨e0, e1⟩ := HA.out.2.1.2 i x (Tw.lt_at hi) hi
      exact ⟨(Joins.cell_of_block HA.out.1 _).trans e0, (Joins.cell_of_block HA.out.1 _).trans e1⟩
set_option maxRecDepth 100000 in
set_option maxHeartbeats 800000 in
theorem toSeenSW_any (v : Value) (xs : List Sn) (w : World) (h : RowS w v xs) (hl : xs.length ≤ 1048576) :
    Calls Tryz.prog 43 #[v] w fun e w' => ∃ g, e = .returned (.slice (some ⟨g, 0, none⟩) xs.length xs.length) ∧ w.heap.size ≤ g ∧ g < w'.heap.size ∧ (∀ i x, xs[i]? = some x → ES w' g (i * 6) x) ∧ Below w.heap.size w w' ∧ Wr w' g (xs.length * 6) := by
  have HR : Hid (RowS w v xs) := h
  obtain ⟨a, cap, rfl⟩ := RowG.slice h
  clear h
  obtain ⟨i0, hi, hz0, hz1, hz2⟩ := info_parts info_toSeenS
  have hmk := run_make (P := Tryz.prog) w 28 113 i0 (.agg #[.int .i64 0, .int .i64 0, .int .i64 0, .int .i64 0, .int .i64 0, .int .i64 0]) Tryz.underlying28 hi hz0 .i64 .i64 (xs.length : Int) (xs.length : Int) (by omega) (by omega) (by rw [hz2]; omega) (by omega)
  have hA0 : Cop_toSeenS xs 0 (madeCells (Value.agg #[.int .i64 0, .int .i64 0, .int .i64 0, .int .i64 0, .int .i64 0, .int .i64 0]).cells ((xs.length : Int).toNat * i0.size)) := ⟨by rw [hz1]; simp [madeCells, Value.cells], fun j x hj => absurd hj (by omega)⟩
  generalize madeCells (Value.agg #[.int .i64 0, .int .i64 0, .int .i64 0, .int .i64 0, .int .i64 0, .int .i64 0]).cells ((xs.length : Int).toNat * i0.size) = A0 at hmk hA0
  rw [Int.toNat_natCast] at hmk
  go_enter Tryz.func43, Tryz.ntmps43
  go_wp2_with fail
  clear hmk
  go_loopw [4] (fun i wr => ∃ k : Nat, ∃ A : Array Value, k ≤ xs.length ∧ i = .int .i64 k ∧ Hid (wr.heap[w.heap.size]? = some (.cells A 113 (0, 0)) ∧ Cop_toSeenS xs k A ∧ Below w.heap.size w wr)) (fun i _ => xs.length - (intOf i).toNat)
  case atStart => exact ⟨0, A0, by omega, rfl, ⟨heap_alloc_new w _, hA0, bel_new _ _⟩⟩
  case round =>
    clear hA0
    obtain ⟨k, A, hk, rfl, HA⟩ := hrel
    by_cases hlt : k < xs.length
    · obtain ⟨x, hx⟩ := Tw.get_at hlt
      obtain ⟨b, off, rfl, hbl, c0, c1, c2, c3, c4, c5⟩ := RowG.at (HR.out.below HA.out.2.2) rfl hx
      have HX : Hid (xs[k]? = some x) := hx
      clear hx
      go_wp2_with fail
      refine (toSeen_any x wr).mono ?_
      rintro e w2 ⟨rfl, b2⟩
      have hg := (Array.getElem?_eq_some_iff.1 HA.out.1).1
      have HA2 : Hid (w2.heap[w.heap.size]? = some (.cells A 113 (0, 0)) ∧ Cop_toSeenS xs k A ∧ Below w.heap.size w w2) := ⟨(b2.block _ hg).trans HA.out.1, HA.out.2.1, HA.out.2.2.trans (b2.mono HA.out.2.2.size)⟩
      clear b2 c0 c1 c2 c3 c4 c5 HA
      have hsz : k * 6 + 5 < A.size := by rw [HA2.out.2.1.1]; omega
      obtain ⟨d0, f0⟩ := blk_cell HA2.out.1 (k * 6) (x := A[k * 6]) (Array.getElem?_eq_getElem (by omega))
      obtain ⟨d1, f1⟩ := blk_cell HA2.out.1 (k * 6 + 1) (x := A[k * 6 + 1]) (Array.getElem?_eq_getElem (by omega))
      obtain ⟨d2, f2⟩ := blk_cell HA2.out.1 (k * 6 + 2) (x := A[k * 6 + 2]) (Array.getElem?_eq_getElem (by omega))
      obtain ⟨d3, f3⟩ := blk_cell HA2.out.1 (k * 6 + 3) (x := A[k * 6 + 3]) (Array.getElem?_eq_getElem (by omega))
      obtain ⟨d4, f4⟩ := blk_cell HA2.out.1 (k * 6 + 4) (x := A[k * 6 + 4]) (Array.getElem?_eq_getElem (by omega))
      obtain ⟨d5, f5⟩ := blk_cell HA2.out.1 (k * 6 + 5) (x := A[k * 6 + 5]) (Array.getElem?_eq_getElem (by omega))
      unfold snV
      go_wp2_with fail
      refine ⟨⟨k + 1, ((((((A).setIfInBounds (k * 6) (.int .i64 x.c)).setIfInBounds (k * 6 + 1) (.int .i64 x.s)).setIfInBounds (k * 6 + 2) (.int .i64 x.k)).setIfInBounds (k * 6 + 3) (.int .i64 x.t)).setIfInBounds (k * 6 + 4) (.int .i64 x.h)).setIfInBounds (k * 6 + 5) (.int .i64 x.e), by omega, by go_num, ⟨(blk_set (blk_set (blk_set (blk_set (blk_set (blk_set HA2.out.1 _ _) _ _) _ _) _ _) _ _) _ _), cop_toSeenS HA2.out.2.1 HX.out, ?_⟩⟩, by simp [intOf]; omega⟩
      exact (Below.setCell (Below.setCell (Below.setCell (Below.setCell (Below.setCell (Below.setCell HA2.out.2.2 (p := ⟨w.heap.size, k * 6, none⟩) (Nat.le_refl _) (.int .i64 x.c)) (p := ⟨w.heap.size, k * 6 + 1, none⟩) (Nat.le_refl _) (.int .i64 x.s)) (p := ⟨w.heap.size, k * 6 + 2, none⟩) (Nat.le_refl _) (.int .i64 x.k)) (p := ⟨w.heap.size, k * 6 + 3, none⟩) (Nat.le_refl _) (.int .i64 x.t)) (p := ⟨w.heap.size, k * 6 + 4, none⟩) (Nat.le_refl _) (.int .i64 x.h)) (p := ⟨w.heap.size, k * 6 + 5, none⟩) (Nat.le_refl _) (.int .i64 x.e))
    · obtain rfl : k = xs.length := by omega
      go_wp2_with fail
      go_ret
      refine ⟨w.heap.size, rfl, Nat.le_refl _, (Array.getElem?_eq_some_iff.1 HA.out.1).1, fun i x hi => ?_, HA.out.2.2, ⟨A, _, HA.out.1, Nat.le_of_eq HA.out.2.1.1.symm⟩⟩
      obtain ⟨e0, e1, e2, e3, e4, e5⟩ := HA.out.2.1.2 i x (Tw.lt_at hi) hi
      exact ⟨(Joins.cell_of_block HA.out.1 _).trans e0, (Joins.cell_of_block HA.out.1 _).trans e1, (Joins.cell_of_block HA.out.1 _).trans e2, (Joins.cell_of_block HA.out.1 _).trans e3, (Joins.cell_of_block HA.out.1 _).trans e4, (Joins.cell_of_block HA.out.1 _).trans e5⟩
set_option maxRecDepth 100000 in
set_option maxHeartbeats 800000 in
theorem toLockW_any (x : Lk) (u : Value) (w : World) (h : RowW w u x.ws) (hl : x.ws.length ≤ 1048576) :
    Calls Tryz.prog 70 #[lkV x u] w fun e w' => ∃ g, e = .returned (lkV x (.slice (some ⟨g, 0, none⟩) x.ws.length x.ws.length)) ∧ w.heap.size ≤ g ∧ g < w'.heap.size ∧ (∀ i y, x.ws[i]? = some y → EW w' g (i * 2) y) ∧ Below w.heap.size w w' ∧ Wr w' g (x.ws.length * 2) := by
  have HU : Hid (RowW w u x.ws) := h
  clear h
  unfold lkV
  have HB : Hid (∀ o0 o1 o2, Below w.heap.size w (((w.alloc o0).alloc o1).alloc o2)) := fun o0 o1 o2 => (three (Below.refl _ _)).2.2.2.2
  have HS : Hid (∀ o0 o1 o2, (((w.alloc o0).alloc o1).alloc o2).heap.size = w.heap.size + 1 + 1 + 1) := fun o0 o1 o2 => by rw [size_new, size_new, size_new]
  go_enter Tryz.func70, Tryz.ntmps70
  go_wp2_with fail
  refine (toWaiterSW_any u x.ws _ (HU.out.below (HB.out _ _ _)) hl).mono ?_
  rintro e w1 ⟨g, rfl, hg0, hg1, hr, b1, hwr⟩
  obtain ⟨k0, k1, k2, kS, kB⟩ := three b1
  rw [HS.out] at hg0
  have K0 : Hid (w1.heap[w.heap.size]? = some (.cells #[.string x.n, .int .i64 x.t, .int .i64 x.h, .int .i64 x.e, u] 108)) := k0
  have K1 : Hid (w1.heap[w.heap.size + 1]? = some (.cells #[.string ⟨#[]⟩, .int .i64 0, .int .i64 0, .int .i64 0, .slice none 0 0] 95 (0, 0))) := k1
  have K2 : Hid (w1.heap[w.heap.size + 1 + 1]? = some (.cells #[.string x.n, .int .i64 x.t, .int .i64 x.h, .int .i64 x.e, .slice none 0 0] 95 (0, 0))) := k2
  have KB : Hid (Below w.heap.size w w1) := kB
  have KR : Hid (g < w1.heap.size ∧ ∀ i y, x.ws[i]? = some y → EW w1 g (i * 2) y) := ⟨hg1, hr⟩
  clear b1 k0 k1 k2 kB kS hr hg1 HB HS
  obtain ⟨s0, t0⟩ := blk_cell K2.out 4 (x := .slice none 0 0) rfl
  have B2 : Hid ((w1.setCell ⟨w.heap.size + 1 + 1, 4, none⟩ (.slice (some ⟨g, 0, none⟩) x.ws.length x.ws.length)).heap[w.heap.size + 1 + 1]? = some (.cells #[.string x.n, .int .i64 x.t, .int .i64 x.h, .int .i64 x.e, .slice (some ⟨g, 0, none⟩) x.ws.length x.ws.length] 95 (0, 0))) := (blk_set K2.out 4 (.slice (some ⟨g, 0, none⟩) x.ws.length x.ws.length))
  have A2 : Hid ((w1.setCell ⟨w.heap.size + 1 + 1, 4, none⟩ (.slice (some ⟨g, 0, none⟩) x.ws.length x.ws.length)).heap[w.heap.size + 1]? = some (.cells #[.string ⟨#[]⟩, .int .i64 0, .int .i64 0, .int .i64 0, .slice none 0 0] 95 (0, 0))) := ((blk_far (by omega) 4 (.slice (some ⟨g, 0, none⟩) x.ws.length x.ws.length)).trans K1.out)
  have G2 : Hid (Below w.heap.size w (w1.setCell ⟨w.heap.size + 1 + 1, 4, none⟩ (.slice (some ⟨g, 0, none⟩) x.ws.length x.ws.length))) := (Below.setCell KB.out (p := ⟨w.heap.size + 1 + 1, 4, none⟩) (by show _ ≤ w.heap.size + 1 + 1; omega) (.slice (some ⟨g, 0, none⟩) x.ws.length x.ws.length))
  have R2 : Hid (g < (w1.setCell ⟨w.heap.size + 1 + 1, 4, none⟩ (.slice (some ⟨g, 0, none⟩) x.ws.length x.ws.length)).heap.size ∧ ∀ i y, x.ws[i]? = some y → EW (w1.setCell ⟨w.heap.size + 1 + 1, 4, none⟩ (.slice (some ⟨g, 0, none⟩) x.ws.length x.ws.length)) g (i * 2) y) := ⟨by simpa using KR.out.1, fun i y hy => ew_set (by omega) (KR.out.2 i y hy)⟩
  have W2 : Hid (Wr (w1.setCell ⟨w.heap.size + 1 + 1, 4, none⟩ (.slice (some ⟨g, 0, none⟩) x.ws.length x.ws.length)) g (x.ws.length * 2)) := hwr.set _ _ _
  clear K0 K1 K2 KR hwr
  go_upto_region 7 with fail
  generalize (w1.setCell ⟨w.heap.size + 1 + 1, 4, none⟩ (.slice (some ⟨g, 0, none⟩) x.ws.length x.ws.length)) = w9 at B2 A2 G2 R2 W2 ⊢
  have p0 := (blk_cell B2.out 0 (x := .string x.n) rfl).1
  have p1 := (blk_cell B2.out 1 (x := .int .i64 x.t) rfl).1
  have p2 := (blk_cell B2.out 2 (x := .int .i64 x.h) rfl).1
  have p3 := (blk_cell B2.out 3 (x := .int .i64 x.e) rfl).1
  have p4 := (blk_cell B2.out 4 (x := .slice (some ⟨g, 0, none⟩) x.ws.length x.ws.length) rfl).1
  obtain ⟨m0, n0⟩ := blk_cell A2.out 0 (x := .string ⟨#[]⟩) rfl
  obtain ⟨m1, n1⟩ := blk_cell A2.out 1 (x := .int .i64 0) rfl
  obtain ⟨m2, n2⟩ := blk_cell A2.out 2 (x := .int .i64 0) rfl
  obtain ⟨m3, n3⟩ := blk_cell A2.out 3 (x := .int .i64 0) rfl
  obtain ⟨m4, n4⟩ := blk_cell A2.out 4 (x := .slice none 0 0) rfl
  have AF : (((((w9.setCell ⟨w.heap.size + 1, 0, none⟩ (.string x.n)).setCell ⟨w.heap.size + 1, 1, none⟩ (.int .i64 x.t)).setCell ⟨w.heap.size + 1, 2, none⟩ (.int .i64 x.h)).setCell ⟨w.heap.size + 1, 3, none⟩ (.int .i64 x.e)).setCell ⟨w.heap.size + 1, 4, none⟩ (.slice (some ⟨g, 0, none⟩) x.ws.length x.ws.length)).heap[w.heap.size + 1]? = some (.cells #[.string x.n, .int .i64 x.t, .int .i64 x.h, .int .i64 x.e, .slice (some ⟨g, 0, none⟩) x.ws.length x.ws.length] 95 (0, 0)) := (blk_set (blk_set (blk_set (blk_set (blk_set A2.out 0 (.string x.n)) 1 (.int .i64 x.t)) 2 (.int .i64 x.h)) 3 (.int .i64 x.e)) 4 (.slice (some ⟨g, 0, none⟩) x.ws.length x.ws.length))
  have RF : g < (((((w9.setCell ⟨w.heap.size + 1, 0, none⟩ (.string x.n)).setCell ⟨w.heap.size + 1, 1, none⟩ (.int .i64 x.t)).setCell ⟨w.heap.size + 1, 2, none⟩ (.int .i64 x.h)).setCell ⟨w.heap.size + 1, 3, none⟩ (.int .i64 x.e)).setCell ⟨w.heap.size + 1, 4, none⟩ (.slice (some ⟨g, 0, none⟩) x.ws.length x.ws.length)).heap.size ∧ ∀ i y, x.ws[i]? = some y → EW (((((w9.setCell ⟨w.heap.size + 1, 0, none⟩ (.string x.n)).setCell ⟨w.heap.size + 1, 1, none⟩ (.int .i64 x.t)).setCell ⟨w.heap.size + 1, 2, none⟩ (.int .i64 x.h)).setCell ⟨w.heap.size + 1, 3, none⟩ (.int .i64 x.e)).setCell ⟨w.heap.size + 1, 4, none⟩ (.slice (some ⟨g, 0, none⟩) x.ws.length x.ws.length)) g (i * 2) y := ⟨by simpa using R2.out.1, fun i y hy => by have h := R2.out.2 i y hy; exact ew_set (by omega) (ew_set (by omega) (ew_set (by omega) (ew_set (by omega) (ew_set (by omega) (h)))))⟩
  have GF : Below w.heap.size w (((((w9.setCell ⟨w.heap.size + 1, 0, none⟩ (.string x.n)).setCell ⟨w.heap.size + 1, 1, none⟩ (.int .i64 x.t)).setCell ⟨w.heap.size + 1, 2, none⟩ (.int .i64 x.h)).setCell ⟨w.heap.size + 1, 3, none⟩ (.int .i64 x.e)).setCell ⟨w.heap.size + 1, 4, none⟩ (.slice (some ⟨g, 0, none⟩) x.ws.length x.ws.length)) := (Below.setCell (Below.setCell (Below.setCell (Below.setCell (Below.setCell G2.out (p := ⟨w.heap.size + 1, 0, none⟩) (by show _ ≤ w.heap.size + 1; omega) (.string x.n)) (p := ⟨w.heap.size + 1, 1, none⟩) (by show _ ≤ w.heap.size + 1; omega) (.int .i64 x.t)) (p := ⟨w.heap.size + 1, 2, none⟩) (by show _ ≤ w.heap.size + 1; omega) (.int .i64 x.h)) (p := ⟨w.heap.size + 1, 3, none⟩) (by show _ ≤ w.heap.size + 1; omega) (.int .i64 x.e)) (p := ⟨w.heap.size + 1, 4, none⟩) (by show _ ≤ w.heap.size + 1; omega) (.slice (some ⟨g, 0, none⟩) x.ws.length x.ws.length))
  have RFH : Hid (g < (((((w9.setCell ⟨w.heap.size + 1, 0, none⟩ (.string x.n)).setCell ⟨w.heap.size + 1, 1, none⟩ (.int .i64 x.t)).setCell ⟨w.heap.size + 1, 2, none⟩ (.int .i64 x.h)).setCell ⟨w.heap.size + 1, 3, none⟩ (.int .i64 x.e)).setCell ⟨w.heap.size + 1, 4, none⟩ (.slice (some ⟨g, 0, none⟩) x.ws.length x.ws.length)).heap.size ∧ ∀ i y, x.ws[i]? = some y → EW (((((w9.setCell ⟨w.heap.size + 1, 0, none⟩ (.string x.n)).setCell ⟨w.heap.size + 1, 1, none⟩ (.int .i64 x.t)).setCell ⟨w.heap.size + 1, 2, none⟩ (.int .i64 x.h)).setCell ⟨w.heap.size + 1, 3, none⟩ (.int .i64 x.e)).setCell ⟨w.heap.size + 1, 4, none⟩ (.slice (some ⟨g, 0, none⟩) x.ws.length x.ws.length)) g (i * 2) y) := RF
  have WF : Hid (Wr (((((w9.setCell ⟨w.heap.size + 1, 0, none⟩ (.string x.n)).setCell ⟨w.heap.size + 1, 1, none⟩ (.int .i64 x.t)).setCell ⟨w.heap.size + 1, 2, none⟩ (.int .i64 x.h)).setCell ⟨w.heap.size + 1, 3, none⟩ (.int .i64 x.e)).setCell ⟨w.heap.size + 1, 4, none⟩ (.slice (some ⟨g, 0, none⟩) x.ws.length x.ws.length)) g (x.ws.length * 2)) := ((((W2.out.set _ _ _).set _ _ _).set _ _ _).set _ _ _).set _ _ _
  clear RF W2
  go_wp2_with fail
  generalize (((((w9.setCell ⟨w.heap.size + 1, 0, none⟩ (.string x.n)).setCell ⟨w.heap.size + 1, 1, none⟩ (.int .i64 x.t)).setCell ⟨w.heap.size + 1, 2, none⟩ (.int .i64 x.h)).setCell ⟨w.heap.size + 1, 3, none⟩ (.int .i64 x.e)).setCell ⟨w.heap.size + 1, 4, none⟩ (.slice (some ⟨g, 0, none⟩) x.ws.length x.ws.length)) = wf at AF GF RFH WF ⊢
  have d0 := (blk_cell AF 0 (x := .string x.n) rfl).1
  have d1 := (blk_cell AF 1 (x := .int .i64 x.t) rfl).1
  have d2 := (blk_cell AF 2 (x := .int .i64 x.h) rfl).1
  have d3 := (blk_cell AF 3 (x := .int .i64 x.e) rfl).1
  have d4 := (blk_cell AF 4 (x := .slice (some ⟨g, 0, none⟩) x.ws.length x.ws.length) rfl).1
  exact bodyPost_ret (v := lkV x (.slice (some ⟨g, 0, none⟩) x.ws.length x.ws.length)) (by simp [lkV, results, Tryz.results70, go_sem, d0, d1, d2, d3, d4]) rfl ⟨g, rfl, by omega, RFH.out.1, RFH.out.2, GF, WF.out⟩
/-- The copy of locks, and each with those that wait in memory that may be written. -/
def CopW (w : World) (g : Nat) (xs : List Lk) (k : Nat) (A : Array Value) : Prop := CopL w g xs k A ∧ ∀ j x h, j < k → xs[j]? = some x → A[j * 5 + 4]? = some (.slice (some ⟨h, 0, none⟩) x.ws.length x.ws.length) → Wr w h (x.ws.length * 2)
theorem CopW.below {w w' : World} {g : Nat} {xs : List Lk} {k : Nat} {A : Array Value} (h : CopW w g xs k A) (hb : Below w.heap.size w w') : CopW w' g xs k A := ⟨h.1.below hb, fun j x q hj hx hA => (h.2 j x q hj hx hA).below hb⟩
theorem CopW.set {w : World} {g i : Nat} {v : Value} {xs : List Lk} {k : Nat} {A : Array Value} (h : CopW w g xs k A) : CopW (w.setCell ⟨g, i, none⟩ v) g xs k A := ⟨h.1.set, fun j x q hj hx hA => (h.2 j x q hj hx hA).set _ _ _⟩
theorem copW_toLockS {w : World} {g : Nat} {xs : List Lk} {k : Nat} {A : Array Value} {x : Lk} {q : Nat} (h : CopW w g xs k A) (hx : xs[k]? = some x) (hg : g < q) (hq : q < w.heap.size) (hr : ∀ i y, x.ws[i]? = some y → EW w q (i * 2) y) (hw : Wr w q (x.ws.length * 2)) :
    CopW w g xs (k + 1) (((((A.setIfInBounds (k * 5) (.string x.n)).setIfInBounds (k * 5 + 1) (.int .i64 x.t)).setIfInBounds (k * 5 + 2) (.int .i64 x.h)).setIfInBounds (k * 5 + 3) (.int .i64 x.e)).setIfInBounds (k * 5 + 4) (.slice (some ⟨q, 0, none⟩) x.ws.length x.ws.length)) := by
  have hk := Tw.lt_at hx
  have hs := h.1.1
  refine ⟨cop_toLockS h.1 hx hg hq hr, fun j y p hj hy hA => ?_⟩
  simp only [Array.getElem?_setIfInBounds, Array.size_setIfInBounds] at hA
  by_cases e : j = k
  · subst e
    rw [hx] at hy
    cases hy
    rw [if_pos rfl, if_pos (by omega)] at hA
    simp only [Option.some.injEq, Value.slice.injEq, Addr.mk.injEq, and_true] at hA
    rw [← hA]
    exact hw
  · refine h.2 j y p (by omega) hy ?_
    rw [if_neg (by omega), if_neg (by omega), if_neg (by omega), if_neg (by omega), if_neg (by omega)] at hA
    exact hA
set_option maxRecDepth 100000 in
set_option maxHeartbeats 800000 in
theorem toLockSW_any (v : Value) (xs : List Lk) (w : World) (h : RowL w v xs) (hl : xs.length ≤ 1048576) (hw : ∀ x ∈ xs, x.ws.length ≤ 1048576) :
    Calls Tryz.prog 42 #[v] w fun e w' => ∃ g, e = .returned (.slice (some ⟨g, 0, none⟩) xs.length xs.length) ∧ w.heap.size ≤ g ∧ g < w'.heap.size ∧ RowLA w.heap.size w' (.slice (some ⟨g, 0, none⟩) xs.length xs.length) xs ∧ WrL w.heap.size w'.heap.size w' g (xs.map fun x => x.ws.length) ∧ Below w.heap.size w w' := by
  have HR : Hid (RowL w v xs ∧ ∀ x ∈ xs, x.ws.length ≤ 1048576) := ⟨h, hw⟩
  obtain ⟨a, cap, rfl⟩ := RowG.slice h
  clear h hw
  obtain ⟨i0, hi, hz0, hz1, hz2⟩ := info_parts info_toLockS
  have hmk := run_make (P := Tryz.prog) w 27 95 i0 (.agg #[.string ⟨#[]⟩, .int .i64 0, .int .i64 0, .int .i64 0, .slice none 0 0]) Tryz.underlying27 hi hz0 .i64 .i64 (xs.length : Int) (xs.length : Int) (by omega) (by omega) (by rw [hz2]; omega) (by omega)
  have hA0 : CopW (w.alloc (.cells (madeCells (Value.agg #[.string ⟨#[]⟩, .int .i64 0, .int .i64 0, .int .i64 0, .slice none 0 0]).cells ((xs.length : Int).toNat * i0.size)) 95)) w.heap.size xs 0 (madeCells (Value.agg #[.string ⟨#[]⟩, .int .i64 0, .int .i64 0, .int .i64 0, .slice none 0 0]).cells ((xs.length : Int).toNat * i0.size)) := ⟨⟨by rw [hz1]; simp [madeCells, Value.cells], fun j x hj => absurd hj (by omega)⟩, fun j x h hj => absurd hj (by omega)⟩
  generalize madeCells (Value.agg #[.string ⟨#[]⟩, .int .i64 0, .int .i64 0, .int .i64 0, .slice none 0 0]).cells ((xs.length : Int).toNat * i0.size) = A0 at hmk hA0
  rw [Int.toNat_natCast] at hmk
  have HA0 : Hid (CopW (w.alloc (.cells A0 95)) w.heap.size xs 0 A0) := hA0
  clear hA0
  go_enter Tryz.func42, Tryz.ntmps42
  go_wp2_with fail
  clear hmk
  go_loopw [4] (fun i wr => ∃ k : Nat, ∃ A : Array Value, k ≤ xs.length ∧ i = .int .i64 k ∧ Hid (wr.heap[w.heap.size]? = some (.cells A 95 (0, 0)) ∧ CopW wr w.heap.size xs k A ∧ Below w.heap.size w wr)) (fun i _ => xs.length - (intOf i).toNat)
  case atStart => exact ⟨0, A0, by omega, rfl, ⟨heap_alloc_new w _, HA0.out, bel_new _ _⟩⟩
  case round =>
    clear HA0
    obtain ⟨k, A, hk, rfl, HA⟩ := hrel
    by_cases hlt : k < xs.length
    · obtain ⟨x, hx⟩ := Tw.get_at hlt
      obtain ⟨b, off, rfl, hbl, u, c0, c1, c2, c3, c4, c5⟩ := RowG.at (HR.out.1.below HA.out.2.2) rfl hx
      have HX : Hid (xs[k]? = some x ∧ RowW wr u x.ws) := ⟨hx, c5⟩
      clear hx c5
      go_wp2_with fail
      refine (toLockW_any x u wr HX.out.2 (HR.out.2 _ (Tw.mem_at HX.out.1))).mono ?_
      rintro e w2 ⟨q, rfl, hq0, hq1, hqr, b2, hqw⟩
      have hg := (Array.getElem?_eq_some_iff.1 HA.out.1).1
      have HA2 : Hid (w2.heap[w.heap.size]? = some (.cells A 95 (0, 0)) ∧ CopW w2 w.heap.size xs k A ∧ Below w.heap.size w w2) := ⟨(b2.block _ hg).trans HA.out.1, HA.out.2.1.below b2, HA.out.2.2.trans (b2.mono HA.out.2.2.size)⟩
      have HQ : Hid (w.heap.size < q ∧ q < w2.heap.size ∧ (∀ i y, x.ws[i]? = some y → EW w2 q (i * 2) y) ∧ Wr w2 q (x.ws.length * 2)) := ⟨by omega, hq1, hqr, hqw⟩
      clear b2 c0 c1 c2 c3 c4 HA hq0 hq1 hqr hqw
      have hsz : k * 5 + 4 < A.size := by rw [HA2.out.2.1.1.1]; omega
      obtain ⟨d0, f0⟩ := blk_cell HA2.out.1 (k * 5) (x := A[k * 5]) (Array.getElem?_eq_getElem (by omega))
      obtain ⟨d1, f1⟩ := blk_cell HA2.out.1 (k * 5 + 1) (x := A[k * 5 + 1]) (Array.getElem?_eq_getElem (by omega))
      obtain ⟨d2, f2⟩ := blk_cell HA2.out.1 (k * 5 + 2) (x := A[k * 5 + 2]) (Array.getElem?_eq_getElem (by omega))
      obtain ⟨d3, f3⟩ := blk_cell HA2.out.1 (k * 5 + 3) (x := A[k * 5 + 3]) (Array.getElem?_eq_getElem (by omega))
      obtain ⟨d4, f4⟩ := blk_cell HA2.out.1 (k * 5 + 4) (x := A[k * 5 + 4]) (Array.getElem?_eq_getElem (by omega))
      unfold lkV
      go_wp2_with fail
      refine ⟨⟨k + 1, (((((A).setIfInBounds (k * 5) (.string x.n)).setIfInBounds (k * 5 + 1) (.int .i64 x.t)).setIfInBounds (k * 5 + 2) (.int .i64 x.h)).setIfInBounds (k * 5 + 3) (.int .i64 x.e)).setIfInBounds (k * 5 + 4) (.slice (some ⟨q, 0, none⟩) x.ws.length x.ws.length), by omega, by go_num, ⟨(blk_set (blk_set (blk_set (blk_set (blk_set HA2.out.1 _ _) _ _) _ _) _ _) _ _), ?_, (Below.setCell (Below.setCell (Below.setCell (Below.setCell (Below.setCell HA2.out.2.2 (p := ⟨w.heap.size, k * 5, none⟩) (Nat.le_refl _) (.string x.n)) (p := ⟨w.heap.size, k * 5 + 1, none⟩) (Nat.le_refl _) (.int .i64 x.t)) (p := ⟨w.heap.size, k * 5 + 2, none⟩) (Nat.le_refl _) (.int .i64 x.h)) (p := ⟨w.heap.size, k * 5 + 3, none⟩) (Nat.le_refl _) (.int .i64 x.e)) (p := ⟨w.heap.size, k * 5 + 4, none⟩) (Nat.le_refl _) (.slice (some ⟨q, 0, none⟩) x.ws.length x.ws.length))⟩⟩, by simp [intOf]; omega⟩
      exact (copW_toLockS HA2.out.2.1 HX.out.1 HQ.out.1 HQ.out.2.1 HQ.out.2.2.1 HQ.out.2.2.2).set.set.set.set.set
    · obtain rfl : k = xs.length := by omega
      go_wp2_with fail
      go_ret
      refine ⟨w.heap.size, rfl, Nat.le_refl _, (Array.getElem?_eq_some_iff.1 HA.out.1).1, ⟨some ⟨w.heap.size, 0, none⟩, xs.length, rfl, .inr ⟨w.heap.size, 0, rfl, Nat.le_refl _, (Array.getElem?_eq_some_iff.1 HA.out.1).1, fun i x hi => ?_⟩⟩, ⟨⟨A, _, HA.out.1, by rw [List.length_map, HA.out.2.1.1.1]; exact Nat.le_refl _⟩, fun j m hj => ?_⟩, HA.out.2.2⟩
      rotate_left
      · rw [List.getElem?_map, Option.map_eq_some_iff] at hj
        obtain ⟨x, hx, rfl⟩ := hj
        obtain ⟨q, e0, e1, e2, e3, e4, e5, e6, e7⟩ := HA.out.2.1.1.2 j x (Tw.lt_at hx) hx
        exact ⟨q, (Joins.cell_of_block HA.out.1 _).trans e4, by omega, e6, by omega, HA.out.2.1.2 j x q (Tw.lt_at hx) hx e4⟩
      obtain ⟨q, e0, e1, e2, e3, e4, e5, e6, e7⟩ := HA.out.2.1.1.2 i x (Tw.lt_at hi) hi
      rw [Nat.zero_add]
      exact ⟨Nat.le_refl _, _, (Joins.cell_of_block HA.out.1 _).trans e0, (Joins.cell_of_block HA.out.1 _).trans e1, (Joins.cell_of_block HA.out.1 _).trans e2, (Joins.cell_of_block HA.out.1 _).trans e3, (Joins.cell_of_block HA.out.1 _).trans e4, some ⟨q, 0, none⟩, _, rfl, .inr ⟨q, 0, rfl, Nat.le_refl _, e6, fun i y hy => by rw [Nat.zero_add]; exact ⟨by omega, e7 i y hy⟩⟩⟩
end Go.Proofs.YtlgfeohoebmbcaaGreat.Mw
