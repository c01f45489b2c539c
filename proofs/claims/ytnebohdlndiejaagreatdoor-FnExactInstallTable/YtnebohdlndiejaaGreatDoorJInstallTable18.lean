/- For the law on InstallTable: copies and marks of texts, marks of a checkpoint with a bound, tables in blocks. -/
import Derived.Test.YtnebohdlndiejaaGreatDoorJInstallTable16
import Derived.Test.YtnebohdlndiejaaGreatDoorJInstallTable17
import Derived.Test.YtnebohdlndiejaaGreatDoorJInstallTable5
import Derived.Test.YtnebohdlndiejaaGreatDoorJInstallTable7
namespace Go.Proofs.YtnebohdlndiejaaGreatDoor.Xt
open Go.RowKit Go.Proofs.YtnebohdlndiejaaGreatDoor.Sl
open Go.Proofs.YtnebohdlndiejaaGreatDoor.Tx (RowT RowT.below tnth)
open Go.Proofs.YtnebohdlndiejaaGreatDoor.Mw (Wr Wr.lt Wr.below Wr.set Wr.cell Mid Mid.refl Mid.trans Mid.of_below Mid.set mtext)
open Go.Proofs.YtnebohdlndiejaaGreatDoor.Hs (stV)
open Go.Proofs.YtnebohdlndiejaaGreatDoor.Ur (Mem rtOK rtC rtT zTab rt_long rt_bad rt_ok tbO)
open Go.Proofs.YtnebohdlndiejaaGreatDoor.Tb (Lk Sn Tab RowL RowS)
open Go.Proofs.YtnebohdlndiejaaGreatDoor.Tp (TOK bOf bOf_false)
open Go.Proofs.YtnebohdlndiejaaGreatDoor.Lo (LkA)
open Go.Proofs.YtnebohdlndiejaaGreatDoor.Rg (blk_cell bel_new)
open Go.Proofs.YtnebohdlndiejaaGreatDoor.Xl (itC itT)
open Go.Proofs.YtnebohdlndiejaaGreatDoor.Gt (Vo)

theorem ret_iw {a b : Int} (h : a = b) : Ending.returned (.int .i64 a) = .returned (.int .i64 b) := by rw [h]
theorem toStrW_any (v : Value) (ts : List ByteArray) (w : World) (h : RowT w v ts) (hl : ts.length ≤ 1048576) :
    Calls Tryz.prog 21 #[v] w fun e w' => ∃ g, e = .returned (.slice (some ⟨g, 0, none⟩) ts.length ts.length) ∧ w.heap.size ≤ g ∧ Wr w' g ts.length ∧ RowT w' (.slice (some ⟨g, 0, none⟩) ts.length ts.length) ts ∧ Below w.heap.size w w' :=
  (Sv.toStringS_any v ts w h hl).mono fun e w' ⟨v', h1, h2, h3⟩ => by
    have row := h2.row
    obtain ⟨g, A, rfl, hB, hg, hs, hA⟩ := h2
    exact ⟨g, h1, hB, ⟨A, _, hg, by omega⟩, row, h3⟩
set_option maxRecDepth 100000 in
set_option maxHeartbeats 800000 in
theorem markStrW_any (g n : Nat) (a : Nat) (w : World) (h : Wr w g n) (ha : 0 < a) (ha2 : a ≤ 1000000000) (hn : n ≤ 1048576) :
    Calls Tryz.prog 24 #[.slice (some ⟨g, 0, none⟩) n n, .int .i64 a] w fun e w' => e = .returned (.int .i64 ((a + n : Nat) : Int)) ∧ Mid g (g + 1) w w' := by
  have H : Hid (Wr w g n) := h
  clear h
  go_enter Tryz.func24, Tryz.ntmps24
  go_wp2_with fail
  go_loopw [1, 5] (fun k i wr => ∃ q r : Nat, q ≤ n ∧ k = .int .i64 (r : Int) ∧ r ≤ a + q ∧ i = .int .i64 q ∧ Hid (r = a + q) ∧ Hid (Wr wr g n ∧ Mid g (g + 1) w wr)) (fun _ i _ => n - (intOf i).toNat)
  case atStart => exact ⟨0, a, by omega, rfl, by omega, rfl, (by show _ = _; omega), H.out, Mid.refl _ _ _⟩
  case round =>
    obtain ⟨q, r, hq, rfl, hrb, rfl, HRR, HA⟩ := hrel
    by_cases hlt : q < n
    · go_wp2_with fail
      refine (Mw.markText_any r _ (by have := HRR.out; omega) (by omega)).mono ?_
      rintro e w2 ⟨rfl, b2⟩
      have H2 : Hid (Wr w2 g n ∧ Mid g (g + 1) w w2) := ⟨HA.out.1.below b2, HA.out.2.trans (Mid.of_below b2)⟩
      obtain ⟨⟨x0, c0⟩, f0⟩ := H2.out.1.cell (j := q) (by omega)
      have HC : Hid (Wr (w2.setCell ⟨g, q, none⟩ (.string (mtext r))) g n ∧ Mid g (g + 1) w (w2.setCell ⟨g, q, none⟩ (.string (mtext r)))) := ⟨H2.out.1.set _ _ _, H2.out.2.trans (Mid.set (Nat.le_refl _) (Nat.lt_succ_self _) _ _)⟩
      clear b2 H2
      go_wp2_with fail
      exact ⟨⟨q + 1, r + 1, by omega, by go_num, by omega, by go_num, (by show _ = _; have := HRR.out; omega), HC⟩, by simp [intOf]; omega⟩
    · obtain rfl : q = n := by omega
      go_wp2_with fail
      go_ret
      exact ⟨ret_iw (by have := HRR.out; omega), HA.out.2⟩
set_option maxRecDepth 100000 in
set_option maxHeartbeats 1600000 in
theorem mark_bnd (sq sz : Int) (rt : ByteArray) (g m : Nat) (w : World) (h : Wr w g (m * 2)) (hn : m ≤ 1048576) :
    Calls Tryz.prog 15 #[.agg #[.int .i64 sq, .int .i64 sz, .string rt, .slice (some ⟨g, 0, none⟩) m m], .int .i64 1] w fun e w' => (∃ r : Nat, e = .returned (.int .i64 (r : Int)) ∧ 0 < r ∧ r ≤ 5000000) ∧ Mid g (g + 1) w w' := by
  have H : Hid (Wr w g (m * 2)) := h
  clear h
  have HB : Hid (Below w.heap.size w (w.alloc (.cells #[.int .i64 sq, .int .i64 sz, .string rt, .slice (some ⟨g, 0, none⟩) m m] 30))) := bel_new _ _
  have h1 := heap_alloc_new w (.cells #[.int .i64 sq, .int .i64 sz, .string rt, .slice (some ⟨g, 0, none⟩) m m] 30)
  have c6 := (blk_cell h1 3 (x := .slice (some ⟨g, 0, none⟩) m m) rfl).1
  clear h1
  go_enter Tryz.func15, Tryz.ntmps15
  go_wp2_with fail
  refine (Gt.markS_any g m m 1 g (g + 1) _ (H.out.below HB.out) (Nat.le_refl _) (Nat.lt_succ_self _) hn (by decide) (by decide)).mono ?_
  rintro e w1 ⟨r, rfl, hr1, hr2, m1⟩
  have HM : Hid (Mid g (g + 1) w w1) := (Mid.of_below HB.out).trans ⟨m1.os, m1.tape, m1.output, m1.size, m1.block⟩
  have HR : Hid (0 < r ∧ r ≤ 5000000) := ⟨hr2, by omega⟩
  clear m1 c6 hr1 hr2
  go_wp2_with fail
  go_ret
  exact ⟨⟨_, rfl, HR.out⟩, HM.out⟩
theorem mid_low {N B C : Nat} {w W W' : World} (hb : Below N w W) (hN : N ≤ w.heap.size) (h : Mid B C W W') (hB : N ≤ B) : Below N w W' :=
  ⟨h.os.trans hb.os, h.tape.trans hb.tape, h.output.trans hb.output, Nat.le_trans hb.size h.size, fun k hk => (h.block k (by have := hb.size; omega) (.inl (by omega))).trans (hb.block k hk)⟩
theorem wr_of {w w' : World} {g n : Nat} (h : w'.heap[g]? = w.heap[g]?) (hw : Wr w g n) : Wr w' g n := by
  obtain ⟨A, t, h1, h2⟩ := hw
  exact ⟨A, t, h.trans h1, h2⟩
/-- A table in a block; its rows are read. -/
structure Zc (W : World) (x : Nat) (tm nx : Int) (u2 u3 : Value) (ls : List Lk) (ss : List Sn) : Prop where
  k : W.heap[x]? = some (.cells #[.int .i64 tm, .int .i64 nx, u2, u3] 36 (0, 0))
  l : RowL W u2 ls
  s : RowS W u3 ss
/-- A table in a block, with memory of its own. -/
structure Zg (W : World) (x B : Nat) (tm nx : Int) (u2 u3 : Value) (ms : List LkA) (ss : List Sn) : Prop where
  k : W.heap[x]? = some (.cells #[.int .i64 tm, .int .i64 nx, u2, u3] 36 (0, 0))
  m : Mem W B u2 u3 ms ss
section
variable {W W' : World} {x B : Nat} {tm nx : Int} {u2 u3 : Value} {ls : List Lk} {ms : List LkA} {ss : List Sn}
theorem Zc.below (h : Zc W x tm nx u2 u3 ls ss) (hb : Below W.heap.size W W') : Zc W' x tm nx u2 u3 ls ss := ⟨(hb.block _ (Array.getElem?_eq_some_iff.1 h.k).1).trans h.k, h.l.below hb, h.s.below hb⟩
theorem Zg.below (h : Zg W x B tm nx u2 u3 ms ss) (hb : Below W.heap.size W W') : Zg W' x B tm nx u2 u3 ms ss := ⟨(hb.block _ (Array.getElem?_eq_some_iff.1 h.k).1).trans h.k, h.m.below hb⟩
theorem Zg.c (h : Zg W x B tm nx u2 u3 ms ss) : W.cell? ⟨x, 0, none⟩ = some (.int .i64 tm) ∧ W.cell? ⟨x, 1, none⟩ = some (.int .i64 nx) ∧ W.cell? ⟨x, 2, none⟩ = some u2 ∧ W.cell? ⟨x, 3, none⟩ = some u3 := ⟨(blk_cell h.k 0 rfl).1, (blk_cell h.k 1 rfl).1, (blk_cell h.k 2 rfl).1, (blk_cell h.k 3 rfl).1⟩
theorem Zc.c (h : Zc W x tm nx u2 u3 ls ss) : W.cell? ⟨x, 0, none⟩ = some (.int .i64 tm) ∧ W.cell? ⟨x, 1, none⟩ = some (.int .i64 nx) ∧ W.cell? ⟨x, 2, none⟩ = some u2 ∧ W.cell? ⟨x, 3, none⟩ = some u3 := ⟨(blk_cell h.k 0 rfl).1, (blk_cell h.k 1 rfl).1, (blk_cell h.k 2 rfl).1, (blk_cell h.k 3 rfl).1⟩
end
theorem rt_small (xs : List Int) : (rtT xs).ls.length ≤ 4 ∧ (rtT xs).ss.length ≤ 6 ∧ ∀ x ∈ (rtT xs).ls, x.ws.length ≤ 4 := by
  have hz : (zTab.ls.length ≤ 4 ∧ zTab.ss.length ≤ 6 ∧ ∀ x ∈ zTab.ls, x.ws.length ≤ 4) := ⟨by decide, by decide, fun x hx => by cases hx⟩
  by_cases hb : 65536 < xs.length
  · rw [(rt_long hb).2]; exact hz
  rcases Bool.eq_false_or_eq_true (rtOK xs) with ho | ho
  rotate_left
  · rw [(rt_bad hb ho).2]; exact hz
  rw [(rt_ok hb ho).2]
  have ht : TOK (tbO xs) := by
    unfold rtOK at ho
    refine Classical.byContradiction fun hn => ?_
    rw [bOf_false hn] at ho
    simp at ho
  obtain ⟨_, _, h3, h4, h5, _⟩ := ht
  refine ⟨h3, h5, fun x hx => ?_⟩
  obtain ⟨i, hi⟩ := List.mem_iff_getElem?.1 hx
  obtain ⟨_, _, _, g4⟩ := h4 i _ hi
  rcases g4 with ⟨_, _, k⟩ | ⟨_, _, _, k, _⟩
  · omega
  · exact k
theorem it_small (n sq sz : Int) (rt : ByteArray) (vs : List Vo) (ps qs : List ByteArray) : (itT n sq sz rt vs ps qs).ls.length ≤ 4 ∧ (itT n sq sz rt vs ps qs).ss.length ≤ 6 ∧ ∀ x ∈ (itT n sq sz rt vs ps qs).ls, x.ws.length ≤ 4 := by
  unfold itT
  split
  · exact rt_small _
  · exact ⟨by decide, by decide, fun x hx => by cases hx⟩
/-- What is left behind a list of texts. -/
theorem lf_ok {left : Int} {ts : List ByteArray} (h1 : left ≤ 1048576) (h : ¬ Sv.lfT left ts < 0) : 0 ≤ Sv.lfT left ts ∧ Sv.lfT left ts ≤ 1048576 ∧ ts.length ≤ 1048576 ∧ ∀ t ∈ ts, t.size ≤ 1048576 := by
  have h2 : ¬ 1048576 < Sv.tot ts := by
    intro hh
    apply h
    unfold Sv.lfT
    rw [if_pos (by omega)]
    decide
  refine ⟨by omega, ?_, Sv.each_small h2⟩
  unfold Sv.lfT
  split <;> omega
end Go.Proofs.YtnebohdlndiejaaGreatDoor.Xt
