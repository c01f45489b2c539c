/- Texts put together: Hts, Um, Un. -/
import Derived.Test.YtakfniknkejgpaaDoorMt12
import Derived.Test.YtakfniknkejgpaaDoorMt3
import Derived.Test.YtakfniknkejgpaaDoorMt13
import Derived.Test.YtakfniknkejgpaaDoorMt10
import Derived.Deep.RegionWith
/- A table's rows in all that comes behind; two right tables that are alike are the same. -/
namespace Go.Proofs.YtakfniknkejgpaaDoor.Ht
open Go.RowKit Go.Proofs.YtakfniknkejgpaaDoor.Sl Go.Proofs.YtakfniknkejgpaaDoor.By Go.Proofs.YtakfniknkejgpaaDoor.Ap Go.Proofs.YtakfniknkejgpaaDoor.Rr Go.Proofs.YtakfniknkejgpaaDoor.Tb Go.Proofs.YtakfniknkejgpaaDoor.Tw Go.Proofs.YtakfniknkejgpaaDoor.Tp Go.Proofs.YtakfniknkejgpaaDoor.Pu Go.Proofs.YtakfniknkejgpaaDoor.Pt
open Go.Proofs.YtakfniknkejgpaaDoor.Rg (bel_new)
theorem blk_new (w : World) (cs : Array Value) (t : TypeId) : (w.alloc (.cells cs t)).heap[w.heap.size]? = some (.cells cs t (0, 0)) := heap_alloc_new w _
def InT (w : World) (u v : Value) (T : Tab) : Prop := ∀ W, Below w.heap.size w W → RowL W u T.ls ∧ RowS W v T.ss
theorem InT.below {w w' : World} {u v : Value} {T : Tab} (h : InT w u v T) (hb : Below w.heap.size w w') : InT w' u v T := fun W hW => h W (hb.trans (hW.mono hb.size))
set_option maxRecDepth 100000 in
set_option maxHeartbeats 3200000 in
theorem same_ok {T : Tab} (hT : TOK T) (a c a' c' a2 c2 a3 c3) (W : World) (h1 : InT W (.slice a T.ls.length c) (.slice a' T.ss.length c') T) (h2 : InT W (.slice a2 T.ls.length c2) (.slice a3 T.ss.length c3) T) :
 Calls Tryd.prog 11 #[tV T (.slice a T.ls.length c) (.slice a' T.ss.length c'), tV T (.slice a2 T.ls.length c2) (.slice a3 T.ss.length c3)] W fun e w' => e = .returned (.bool true) ∧ Below W.heap.size W w' := by
 have HI : Hid (∀ V, Below W.heap.size W V → Calls Tryd.prog 7 #[.agg #[.int .i64 T.tm, .int .i64 T.nx, .slice a T.ls.length c, .slice a' T.ss.length c']] V fun e w' => ∃ x, e = .returned (.tuple #[x, .int .i64 0]) ∧ RowB w' x (tabB T) ∧ Below V.heap.size V w') := fun V hV => specBytes_ok hT (h1 V hV)
 have HJ : Hid (∀ V, Below W.heap.size W V → Calls Tryd.prog 7 #[.agg #[.int .i64 T.tm, .int .i64 T.nx, .slice a2 T.ls.length c2, .slice a3 T.ss.length c3]] V fun e w' => ∃ x, e = .returned (.tuple #[x, .int .i64 0]) ∧ RowB w' x (tabB T) ∧ Below V.heap.size V w') := fun V hV => specBytes_ok hT (h2 V hV)
 unfold tV
 generalize T.ls.length = nl at HI HJ ⊢
 generalize T.ss.length = ns at HI HJ ⊢
 generalize T.tm = tm at HI HJ ⊢
 generalize T.nx = nx at HI HJ ⊢
 generalize tabB T = bs at HI HJ
 clear h1 h2 hT
 have n1 := bel_new W (.cells #[.int .i64 tm, .int .i64 nx, .slice a nl c, .slice a' ns c'] 26)
 have n2 := bel_new (W.alloc (.cells #[.int .i64 tm, .int .i64 nx, .slice a nl c, .slice a' ns c'] 26)) (.cells #[.int .i64 tm, .int .i64 nx, .slice a2 nl c2, .slice a3 ns c3] 26)
 have s1 : (W.alloc (.cells #[.int .i64 tm, .int .i64 nx, .slice a nl c, .slice a' ns c'] 26)).heap.size = W.heap.size + 1 := by simp
 have A0 : Hid ((((W.alloc (.cells #[.int .i64 tm, .int .i64 nx, .slice a nl c, .slice a' ns c'] 26)).alloc (.cells #[.int .i64 tm, .int .i64 nx, .slice a2 nl c2, .slice a3 ns c3] 26)).heap[W.heap.size]? = some (.cells #[.int .i64 tm, .int .i64 nx, .slice a nl c, .slice a' ns c'] 26 (0, 0)) ∧ ((W.alloc (.cells #[.int .i64 tm, .int .i64 nx, .slice a nl c, .slice a' ns c'] 26)).alloc (.cells #[.int .i64 tm, .int .i64 nx, .slice a2 nl c2, .slice a3 ns c3] 26)).heap[W.heap.size + 1]? = some (.cells #[.int .i64 tm, .int .i64 nx, .slice a2 nl c2, .slice a3 ns c3] 26 (0, 0))) ∧ Below W.heap.size W ((W.alloc (.cells #[.int .i64 tm, .int .i64 nx, .slice a nl c, .slice a' ns c'] 26)).alloc (.cells #[.int .i64 tm, .int .i64 nx, .slice a2 nl c2, .slice a3 ns c3] 26))) :=
  ⟨⟨(n2.block _ (by omega)).trans (blk_new _ _ _), by have := blk_new (W.alloc (.cells #[.int .i64 tm, .int .i64 nx, .slice a nl c, .slice a' ns c'] 26)) #[.int .i64 tm, .int .i64 nx, .slice a2 nl c2, .slice a3 ns c3] 26; rw [s1] at this; exact this⟩, n1.trans (n2.mono (by omega))⟩
 clear n1 n2 s1
 go_enter Tryd.func11, Tryd.ntmps11
 go_upto_region 1 with fail
 generalize (W.alloc (.cells #[.int .i64 tm, .int .i64 nx, .slice a nl c, .slice a' ns c'] 26)).alloc (.cells #[.int .i64 tm, .int .i64 nx, .slice a2 nl c2, .slice a3 ns c3] 26) = w0 at A0 ⊢
 have x0 := (blk_cell A0.out.1.1 0 (x := .int .i64 tm) rfl).1
 have x1 := (blk_cell A0.out.1.1 1 (x := .int .i64 nx) rfl).1
 have x2 := (blk_cell A0.out.1.1 2 (x := .slice a nl c) rfl).1
 have x3 := (blk_cell A0.out.1.1 3 (x := .slice a' ns c') rfl).1
 go_wp2_with fail
 refine (HI.out _ A0.out.2).mono ?_
 rintro e w1 ⟨v1, rfl, r1, b1⟩
 have R1 : Hid (RowB w1 v1 bs) := r1
 have A1 : Hid (w1.heap[W.heap.size + 1]? = some (.cells #[.int .i64 tm, .int .i64 nx, .slice a2 nl c2, .slice a3 ns c3] 26 (0, 0)) ∧ Below W.heap.size W w1) := ⟨(b1.block _ (Array.getElem?_eq_some_iff.1 A0.out.1.2).1).trans A0.out.1.2, A0.out.2.trans (b1.mono A0.out.2.size)⟩
 clear x0 x1 x2 x3 r1 b1 A0 HI
 have x0 := (blk_cell A1.out.1 0 (x := .int .i64 tm) rfl).1
 have x1 := (blk_cell A1.out.1 1 (x := .int .i64 nx) rfl).1
 have x2 := (blk_cell A1.out.1 2 (x := .slice a2 nl c2) rfl).1
 have x3 := (blk_cell A1.out.1 3 (x := .slice a3 ns c3) rfl).1
 go_wp2_with fail
 refine (HJ.out _ A1.out.2).mono ?_
 rintro e w2 ⟨v2, rfl, r2, b2⟩
 have R2 : Hid (RowB w2 v1 bs ∧ RowB w2 v2 bs) := ⟨R1.out.below b2, r2⟩
 have A2 : Hid (Below W.heap.size W w2) := A1.out.2.trans (b2.mono A1.out.2.size)
 clear x0 x1 x2 x3 r2 b2 A1 R1 HJ
 have hc1 := run_convert_row (P := Tryd.prog) w2 w2.heap.size 22 5 9 Tryd.underlying22 Tryd.underlying5 Tryd.underlying9 v1 bs (RowU.of R2.out.1)
 have hc2 := run_convert_row (P := Tryd.prog) w2 w2.heap.size 22 5 9 Tryd.underlying22 Tryd.underlying5 Tryd.underlying9 v2 bs (RowU.of R2.out.2)
 generalize strOfNums bs = sb at hc1 hc2
 have hsb : (sb.toList == sb.toList) = true := by simp
 go_wp2_with fail
 go_ret
 exact ⟨rfl, A2.out⟩
end Go.Proofs.YtakfniknkejgpaaDoor.Ht

/- The laws' marks on a table in memory of one's own: written, and held. -/
namespace Go.Proofs.YtakfniknkejgpaaDoor.Um
open Go.RowKit Go.Proofs.YtakfniknkejgpaaDoor.Sl Go.Proofs.YtakfniknkejgpaaDoor.By Go.Proofs.YtakfniknkejgpaaDoor.Ap Go.Proofs.YtakfniknkejgpaaDoor.Tb Go.Proofs.YtakfniknkejgpaaDoor.Tw
open Go.Proofs.YtakfniknkejgpaaDoor.Mw (mtext Wr Wr.lt Wr.below Wr.set Wr.cell MkW MkW.below set_same set_off Mid Mid.below)
open Go.Proofs.YtakfniknkejgpaaDoor.Ur (Mem Apart)
open Go.Proofs.YtakfniknkejgpaaDoor.Wa (OwnW OwnS)
open Go.Proofs.YtakfniknkejgpaaDoor.Lo (LkA uV OwnL own_block kind_ne)
open Go.Proofs.YtakfniknkejgpaaDoor.Tx (blk_cell blk_set blk_far bel_new size_new)

def Up (W : World) (g a N : Nat) : Prop := ∀ i, i < N → W.cell? ⟨g, i, none⟩ = some (.int .i64 ((a + i : Nat) : Int))
theorem Up.below {W W' : World} {g a N : Nat} (h : Up W g a N) (hg : g < W.heap.size) (hb : Below W.heap.size W W') : Up W' g a N := fun i hi => (hb.cell (p := ⟨g, i, none⟩) hg).trans (h i hi)
theorem Up.next {W : World} {g a N M : Nat} (h : Up W g a N) (hw : Wr W g M) (hN : N < M) : Up (W.setCell ⟨g, N, none⟩ (.int .i64 ((a + N : Nat) : Int))) g a (N + 1) := fun i hi => by
 by_cases e : i = N
 ·subst e; exact set_same hw hN _
 ·rw [set_off (fun h => e h.symm)]; exact h i (by omega)
end Go.Proofs.YtakfniknkejgpaaDoor.Um

/- The laws' marks on locks in memory of one's own. -/
namespace Go.Proofs.YtakfniknkejgpaaDoor.Um
open Go.RowKit Go.Proofs.YtakfniknkejgpaaDoor.Sl Go.Proofs.YtakfniknkejgpaaDoor.By Go.Proofs.YtakfniknkejgpaaDoor.Ap Go.Proofs.YtakfniknkejgpaaDoor.Tb Go.Proofs.YtakfniknkejgpaaDoor.Tw
open Go.Proofs.YtakfniknkejgpaaDoor.Mw (mtext Wr Wr.lt Wr.below Wr.set Wr.cell MkW MkW.below set_same set_off Mid Mid.below)
open Go.Proofs.YtakfniknkejgpaaDoor.Ur (Mem Apart)
open Go.Proofs.YtakfniknkejgpaaDoor.Wa (OwnW OwnS)
open Go.Proofs.YtakfniknkejgpaaDoor.Lo (LkA uV OwnL own_block kind_ne)
open Go.Proofs.YtakfniknkejgpaaDoor.Tx (blk_cell blk_set blk_far bel_new size_new)

def off (ms : List LkA) (a : Nat) : Nat → Nat
 | 0 => a
 | j + 1 => off ms a j + 4 + (ms.getD j (default, none, 0)).1.ws.length * 2
structure Mt (W : World) (gl : Nat) (ms : List LkA) (a k : Nat) : Prop where
 lb : Wr W gl (ms.length * 5)
 u : ∀ j m, ms[j]? = some m → W.cell? ⟨gl, j * 5 + 4, none⟩ = some (uV m)
 wr : ∀ j m, k ≤ j → ms[j]? = some m → m.1.ws.length = 0 ∨ ∃ g, m.2.1 = some ⟨g, 0, none⟩ ∧ g ≠ gl ∧ m.1.ws.length ≤ m.2.2 ∧ Wr W g (m.1.ws.length * 2)
 di : ∀ (i j : Nat) (x y : LkA), i < j → ms[i]? = some x → ms[j]? = some y → ∀ g, x.2.1 = some ⟨g, 0, none⟩ → y.2.1 ≠ some ⟨g, 0, none⟩
 dn : ∀ j m, j < k → ms[j]? = some m → (W.cell? ⟨gl, j * 5, none⟩ = some (.string (mtext (off ms a j))) ∧ W.cell? ⟨gl, j * 5 + 1, none⟩ = some (.int .i64 ((off ms a j : Nat) + 1)) ∧ W.cell? ⟨gl, j * 5 + 2, none⟩ = some (.int .i64 ((off ms a j : Nat) + 1 + 1)) ∧ W.cell? ⟨gl, j * 5 + 3, none⟩ = some (.int .i64 ((off ms a j : Nat) + 1 + 1 + 1))) ∧ (m.1.ws.length = 0 ∨ ∃ g, m.2.1 = some ⟨g, 0, none⟩ ∧ g ≠ gl ∧ m.1.ws.length ≤ m.2.2 ∧ g < W.heap.size ∧ MkW W g (off ms a j + 4) m.1.ws.length)
theorem Mt.below {W W' : World} {gl : Nat} {ms : List LkA} {a k : Nat} (h : Mt W gl ms a k) (hb : Below W.heap.size W W') : Mt W' gl ms a k :=
 ⟨h.lb.below hb, fun j m hj => (hb.cell (p := ⟨gl, _, none⟩) h.lb.lt).trans (h.u j m hj), fun j m hk hj => (h.wr j m hk hj).imp id fun ⟨g, h1, h2, h3, h4⟩ => ⟨g, h1, h2, h3, h4.below hb⟩, h.di, fun j m hk hj => by
   obtain ⟨⟨c0, c1, c2, c3⟩, hw⟩ := h.dn j m hk hj
   exact ⟨⟨(hb.cell (p := ⟨gl, _, none⟩) h.lb.lt).trans c0, (hb.cell (p := ⟨gl, _, none⟩) h.lb.lt).trans c1, (hb.cell (p := ⟨gl, _, none⟩) h.lb.lt).trans c2, (hb.cell (p := ⟨gl, _, none⟩) h.lb.lt).trans c3⟩, hw.imp id fun ⟨g, h1, h2, h3, h4, h5⟩ => ⟨g, h1, h2, h3, Nat.lt_of_lt_of_le h4 hb.size, h5.below h4 hb⟩⟩⟩
theorem MkW.far {W : World} {g a q p i : Nat} {v : Value} (h : MkW W g a q) (hne : g ≠ p) : MkW (W.setCell ⟨p, i, none⟩ v) g a q := fun j hj =>
 ⟨(World.cell?_of_block (a := ⟨g, _, none⟩) (blk_far hne i v)).trans (h j hj).1, (World.cell?_of_block (a := ⟨g, _, none⟩) (blk_far hne i v)).trans (h j hj).2⟩
theorem Mt.set {W : World} {gl : Nat} {ms : List LkA} {a k : Nat} (h : Mt W gl ms a k) (i : Nat) (hi : i < 4) (v : Value) : Mt (W.setCell ⟨gl, k * 5 + i, none⟩ v) gl ms a k :=
 ⟨h.lb.set _ _ _, fun j m hj => (set_off (by omega) v).trans (h.u j m hj), fun j m hk hj => (h.wr j m hk hj).imp id fun ⟨g, h1, h2, h3, h4⟩ => ⟨g, h1, h2, h3, h4.set _ _ _⟩, h.di, fun j m hk hj => by
   obtain ⟨⟨c0, c1, c2, c3⟩, hw⟩ := h.dn j m hk hj
   exact ⟨⟨(set_off (by omega) v).trans c0, (set_off (by omega) v).trans c1, (set_off (by omega) v).trans c2, (set_off (by omega) v).trans c3⟩, hw.imp id fun ⟨g, h1, h2, h3, h4, h5⟩ => ⟨g, h1, h2, h3, by simpa using h4, MkW.far h5 h2⟩⟩⟩
structure Cg (gl : Nat) (ms : List LkA) (w w' : World) : Prop where
 os : w'.os = w.os
 tape : w'.tape = w.tape
 output : w'.output = w.output
 size : w.heap.size ≤ w'.heap.size
 block : ∀ k, k < w.heap.size → k ≠ gl → (∀ m ∈ ms, m.2.1 ≠ some ⟨k, 0, none⟩) → w'.heap[k]? = w.heap[k]?
theorem Cg.refl (gl : Nat) (ms : List LkA) (w : World) : Cg gl ms w w := ⟨rfl, rfl, rfl, Nat.le_refl _, fun _ _ _ _ => rfl⟩
theorem Cg.below {gl : Nat} {ms : List LkA} {w w1 w2 : World} (h : Cg gl ms w w1) (hb : Below w1.heap.size w1 w2) : Cg gl ms w w2 :=
 ⟨hb.os.trans h.os, hb.tape.trans h.tape, hb.output.trans h.output, Nat.le_trans h.size hb.size, fun k hk h1 h2 => (hb.block k (Nat.lt_of_lt_of_le hk h.size)).trans (h.block k hk h1 h2)⟩
theorem Cg.set {gl : Nat} {ms : List LkA} {w w1 : World} (h : Cg gl ms w w1) (i : Nat) (v : Value) : Cg gl ms w (w1.setCell ⟨gl, i, none⟩ v) :=
 ⟨h.os, h.tape, h.output, by simpa using h.size, fun k hk h1 h2 => (blk_far h1 i v).trans (h.block k hk h1 h2)⟩
theorem Cg.mid {gl g : Nat} {ms : List LkA} {w w1 w2 : World} {m : LkA} (h : Cg gl ms w w1) (hm : m ∈ ms) (hg : m.2.1 = some ⟨g, 0, none⟩) (hb : Mid g (g + 1) w1 w2) : Cg gl ms w w2 :=
 ⟨hb.os.trans h.os, hb.tape.trans h.tape, hb.output.trans h.output, Nat.le_trans h.size hb.size, fun k hk h1 h2 => (hb.block k (Nat.lt_of_lt_of_le hk h.size) (by have : k ≠ g := fun e => h2 m hm (by rw [hg, e]); omega)).trans (h.block k hk h1 h2)⟩
end Go.Proofs.YtakfniknkejgpaaDoor.Um
