/- Texts put together: Eq, Req, ReqLaw. -/
import Derived.Test.YtakfniknkejgpaaDoorMt29
import Derived.Test.YtakfniknkejgpaaDoorMt4
import Derived.Test.YtakfniknkejgpaaDoorMt3
import Derived.WalkSpells
import Derived.Laws.NewBlocks
import Derived.Laws.ResultCell
/- Rows of answers of one's own; requests and times that are read; a new table. -/
namespace Go.Proofs.YtakfniknkejgpaaDoor.Ea
open Go.RowKit Go.Proofs.YtakfniknkejgpaaDoor.Sl Go.Proofs.YtakfniknkejgpaaDoor.By Go.Proofs.YtakfniknkejgpaaDoor.Ap Go.Proofs.YtakfniknkejgpaaDoor.Tb Go.Proofs.YtakfniknkejgpaaDoor.Tw Go.Proofs.YtakfniknkejgpaaDoor.Wa Go.Proofs.YtakfniknkejgpaaDoor.Tp Go.Proofs.YtakfniknkejgpaaDoor.Da
open Go.Proofs.YtakfniknkejgpaaDoor.Lo (LkA uV clL OwnL OwnL.kept OwnL.lt OwnL.below OwnL.row OwnL.slice own_block kind_ne Apart lenL atL)
open Go.Proofs.YtakfniknkejgpaaDoor.Tx (blk_cell blk_set blk_far blk_new bel_new)
open Go.Proofs.YtakfniknkejgpaaDoor.Lf (Fnd l05Find_any)
open Go.Proofs.YtakfniknkejgpaaDoor.Lsh
def clAn (p : Da.An) : List Value := [.int .i64 p.k, .int .i64 p.t, .int .i64 p.h, .int .i64 p.e]
theorem oneAn (p : Da.An) : ∀ u ∈ clAn p, u.oneCell' = true := by
 intro u hu
 simp [clAn] at hu
 rcases hu with rfl | rfl | rfl | rfl
 all_goals rfl
def OwnAn (w : World) (B : Nat) (v : Value) (ms : List Da.An) : Prop := w.ownsRow B 55 4 v ms.length (ms.flatMap clAn)
theorem OwnAn.kept {w w' : World} {B : Nat} {v : Value} {ms : List Da.An} (h : OwnAn w B v ms) (hk : ∀ g, v.ownBlock = some g → w'.heap[g]? = w.heap[g]?) : OwnAn w' B v ms := by
 obtain ⟨hl, h⟩ := h
 refine ⟨hl, ?_⟩
 rcases h with h | ⟨g, cap, cur, rfl, h1, hg, h2⟩
 ·exact .inl h
 ·exact .inr ⟨g, cap, cur, rfl, h1, (hk g rfl).trans hg, h2⟩
theorem OwnAn.lt {w : World} {B : Nat} {v : Value} {ms : List Da.An} (h : OwnAn w B v ms) : ∀ g, v.ownBlock = some g → B ≤ g ∧ g < w.heap.size := World.ownsRow.lt h
theorem OwnAn.below {w w' : World} {B : Nat} {v : Value} {ms : List Da.An} (h : OwnAn w B v ms) (hb : Below w.heap.size w w') : OwnAn w' B v ms := h.kept fun g hg => hb.block g (h.lt g hg).2
theorem OwnAn.alloc {w : World} {B : Nat} {v : Value} {ms : List Da.An} (h : OwnAn w B v ms) (o : Obj) : OwnAn (w.alloc o) B v ms := h.below ((Below.refl _ _).alloc (Nat.le_refl _) _)
theorem OwnAn.made (w : World) (B : Nat) (hB : B ≤ w.heap.size) : OwnAn (w.alloc (.cells #[] 55)) B (.slice (some ⟨w.heap.size, 0, none⟩) 0 0) [] := World.ownsRow_made w #[] 0 hB (by decide) rfl
theorem OwnAn.nil (w : World) (B : Nat) : OwnAn w B (.slice none 0 0) [] := World.ownsRow_nil _ _ _ _
theorem OwnAn.slice {w : World} {B : Nat} {v : Value} {ms : List Da.An} (h : OwnAn w B v ms) : ∃ a cap, v = .slice a ms.length cap := by
 obtain ⟨_, h | ⟨g, cap, cur, he, _⟩⟩ := h
 ·exact ⟨none, 0, by rw [h.1, h.2]⟩
 ·exact ⟨_, cap, he⟩
theorem OwnAn.mono {w : World} {B B' : Nat} {v : Value} {ms : List Da.An} (h : OwnAn w B v ms) (hb : B' ≤ B) : OwnAn w B' v ms := by
 obtain ⟨hl, h⟩ := h
 refine ⟨hl, ?_⟩
 rcases h with h | ⟨g, cap, cur, rfl, h1, hg, h2⟩
 ·exact .inl h
 ·exact .inr ⟨g, cap, cur, rfl, Nat.le_trans hb h1, hg, h2⟩
theorem infoAn : (Tryd.prog.info? 55).map (fun i => (i.zero, i.size, i.bytes)) = some (some (.agg #[.int .i64 0, .int .i64 0, .int .i64 0, .int .i64 0]), 4, 32) := by kernel_rfl
def SrcAn (W : World) (u : Value) (qs : List Da.An) : Prop := ∃ a c, u = .slice a qs.length c ∧ (qs = [] ∨ ∃ b off, a = some ⟨b, off, none⟩ ∧ ∀ j z, (qs.flatMap clAn)[j]? = some z → W.cell? ⟨b, off + j, none⟩ = some z)
theorem SrcAn.kept {W W' : World} {u : Value} {qs : List Da.An} (h : SrcAn W u qs) (hk : ∀ b, u.ownBlock = some b → W'.heap[b]? = W.heap[b]?) : SrcAn W' u qs := by
 obtain ⟨a, c, rfl, h⟩ := h
 refine ⟨a, c, rfl, ?_⟩
 rcases h with h | ⟨b, off, rfl, h⟩
 ·exact .inl h
 ·exact .inr ⟨b, off, rfl, fun j z hj => by rw [← h j z hj]; simp only [World.cell?, hk b (by rfl)]⟩
theorem SrcAn.below {W W' : World} {u : Value} {qs : List Da.An} {b0 : Nat} (h : SrcAn W u qs) (hb : Below b0 W W') (hlt : ∀ b, u.ownBlock = some b → b < b0) : SrcAn W' u qs := h.kept fun b hb' => hb.block b (hlt b hb')
theorem listAn {P : Program} {ops : Array Oper} {rest : List Oper} {o : Oper} {a : Act} {Q : Exit → Act → World → Prop} (hgd : o.guard = none) (s x : Operand) (t : TypeId)
 (ho : o.op = .call { callee := .builtin .append, args := #[s, x], argTypes := #[t, t] }) (i : TypeInfo) (ht : P.underlying t = some (.slice 55)) (hi : P.info? 55 = some i) (hz : i.zero = some (.agg #[.int .i64 0, .int .i64 0, .int .i64 0, .int .i64 0]))
 (hsize : i.size = 4) (hby : i.bytes = 32) (B : Nat) (w0 W : World) (v : Value) (ms : List Da.An) (m : Da.An) (hs : a.eval s = v) (hown : OwnAn W B v ms) (hg0 : Below B w0 W) (hB : B ≤ W.heap.size)
 (gx : Nat) (hx : a.eval x = .slice (some ⟨gx, 0, none⟩) 1 1) (hgx : W.heap.size = gx) (hlen : ms.length ≤ 1000000)
 (h : ∀ v' w', OwnAn w' B v' (ms ++ [m]) → Below B w0 w' → (∀ k, k < W.heap.size → some k ≠ v.ownBlock → w'.heap[k]? = W.heap[k]? ∧ some k ≠ v'.ownBlock) → wpList P ops Q rest (a.put o.dst v') w') : wpList P ops Q (o :: rest) a (W.alloc (.cells (clAn m).toArray 55)) := by
 subst hgx
 have hown' := hown.alloc (.cells (clAn m).toArray 55)
 refine wpList_append_own_at (P := P) _ hgd s x t ho B 55 i _ 4 32 ht hi hz hsize hby rfl (by decide) v ms.length _ hs hown' ⟨W.heap.size, 0, none⟩ 1 1 (clAn m) hx rfl ?_ (oneAn m) (by unfold maxLen; omega) (by omega) (by simp; omega) ?_
 ·intro j u hj
  have h2 : (⟨W.heap.size, 0, none⟩ : Addr).add j = ⟨W.heap.size, j, none⟩ := by unfold Addr.add; split <;> simp_all
  rw [h2, Joins.cell_of_block (heap_alloc_new W _), ← hj]
  simp
 ·intro v' w' h1 h2 h3 h4
  refine h v' w' (by unfold OwnAn; rw [List.flatMap_append, List.length_append]; simpa using h1) ((hg0.alloc hB _).grown h2 (by simp; omega) (fun k hk => (hown'.lt k hk).1)) (fun k hk hn => ⟨(h2.block k (by simp; omega) hn).trans (Below.heap_alloc W _ k hk), fun e => ?_⟩)
  rcases h4 with h4 | h4
  ·exact hn (e.trans h4)
  ·rw [h4] at e
   simp at e
   omega

def RowQ (w : World) (v : Value) (rs : List (Da.Ask × Int)) : Prop := ∃ a cap, v = .slice a rs.length cap ∧ ∀ i p, rs[i]? = some p → ∃ b off, a = some ⟨b, off, none⟩ ∧ b < w.heap.size ∧ w.cell? ⟨b, off + i * 5, none⟩ = some (.int .i64 p.1.cl) ∧ w.cell? ⟨b, off + i * 5 + 1, none⟩ = some (.int .i64 p.1.st) ∧ w.cell? ⟨b, off + i * 5 + 2, none⟩ = some (.int .i64 p.1.kd) ∧ w.cell? ⟨b, off + i * 5 + 3, none⟩ = some (.int .i64 p.1.le) ∧ w.cell? ⟨b, off + i * 5 + 4, none⟩ = some (.string p.1.nm)
def RowT (w : World) (v : Value) (rs : List (Da.Ask × Int)) : Prop := ∃ a cap, v = .slice a rs.length cap ∧ ∀ i p, rs[i]? = some p → ∃ b off, a = some ⟨b, off, none⟩ ∧ b < w.heap.size ∧ w.cell? ⟨b, off + i, none⟩ = some (.int .i64 p.2)
theorem RowQ.below {w w' : World} {v : Value} {rs : List (Da.Ask × Int)} (h : RowQ w v rs) (hb : Below w.heap.size w w') : RowQ w' v rs := by
 obtain ⟨a, cap, rfl, h⟩ := h
 refine ⟨a, cap, rfl, fun i p hp => ?_⟩
 obtain ⟨b, off, e, hl, h0, h1, h2, h3, h4⟩ := h i p hp
 exact ⟨b, off, e, Nat.lt_of_lt_of_le hl hb.size, (hb.cell (p := ⟨b, _, none⟩) hl).trans h0, (hb.cell (p := ⟨b, _, none⟩) hl).trans h1, (hb.cell (p := ⟨b, _, none⟩) hl).trans h2, (hb.cell (p := ⟨b, _, none⟩) hl).trans h3, (hb.cell (p := ⟨b, _, none⟩) hl).trans h4⟩
theorem RowT.below {w w' : World} {v : Value} {rs : List (Da.Ask × Int)} (h : RowT w v rs) (hb : Below w.heap.size w w') : RowT w' v rs := by
 obtain ⟨a, cap, rfl, h⟩ := h
 refine ⟨a, cap, rfl, fun i p hp => ?_⟩
 obtain ⟨b, off, e, hl, h0⟩ := h i p hp
 exact ⟨b, off, e, Nat.lt_of_lt_of_le hl hb.size, (hb.cell (p := ⟨b, _, none⟩) hl).trans h0⟩
theorem runA_succ {rs : List (Da.Ask × Int)} {k : Nat} {p : Da.Ask × Int} (h : rs[k]? = some p) : Da.runA rs (k + 1) = Da.runA rs k ++ [(apT (Da.runT rs k) p.2 p.1).2] := by
 unfold Da.runA
 rw [List.range_succ, List.filterMap_append]
 simp [h]
theorem runT_succ {rs : List (Da.Ask × Int)} {k : Nat} {p : Da.Ask × Int} (h : rs[k]? = some p) : Da.runT rs (k + 1) = (apT (Da.runT rs k) p.2 p.1).1 := by
 rw [Da.runT, h]
theorem runA_len {rs : List (Da.Ask × Int)} : ∀ k, k ≤ rs.length → (Da.runA rs k).length = k
 | 0, _ => rfl
 | k + 1, hk => by
   obtain ⟨p, hp⟩ : ∃ p, rs[k]? = some p := ⟨_, List.getElem?_eq_getElem (show k < rs.length by omega)⟩
   rw [runA_succ hp, List.length_append, runA_len k (by omega)]
   rfl
structure RunI (w wr : World) (B b : Nat) (X : Tab) (ul us va : Value) (ps : List LkA) (zs : List Da.An) : Prop where
 zt : wr.heap[w.heap.size]? = some (.cells #[.int .i64 0, .int .i64 0, .slice none 0 0, .slice none 0 0] 26 (0, 0))
 bx : wr.heap[b]? = some (.cells #[.int .i64 X.tm, .int .i64 X.nx, ul, us] 26 (0, 0))
 ol : OwnL wr B ul ps
 ow : ∀ p ∈ ps, OwnW wr B (uV p) p.1.ws
 eq : ps.map (·.1) = X.ls
 os : OwnS wr B us X.ss
 oa : OwnAn wr B va zs
 be : Below w.heap.size w wr
 hb : w.heap.size < b
 hB : w.heap.size ≤ B
 lt : b < wr.heap.size
theorem RunI.below {w wr w' : World} {B b : Nat} {X : Tab} {ul us va : Value} {ps : List LkA} {zs : List Da.An} (h : RunI w wr B b X ul us va ps zs) (hb : Below wr.heap.size wr w') : RunI w w' B b X ul us va ps zs :=
 ⟨(hb.block _ (Array.getElem?_eq_some_iff.1 h.zt).1).trans h.zt, (hb.block _ h.lt).trans h.bx, h.ol.below hb, fun p hp => (h.ow p hp).below hb, h.eq, h.os.below hb, OwnAn.below h.oa hb, h.be.trans (hb.mono h.be.size), h.hb, h.hB, Nat.lt_of_lt_of_le h.lt hb.size⟩
theorem RunI.rows {w wr : World} {B b : Nat} {X : Tab} {ul us va : Value} {ps : List LkA} {zs : List Da.An} (h : RunI w wr B b X ul us va ps zs) : RowL wr ul X.ls ∧ RowS wr us X.ss := by
 have := h.ol.row (fun p hp => (h.ow p hp).row)
 rw [h.eq] at this
 exact ⟨this, OwnS.row h.os⟩
theorem RunI.next {w wr w5 w6 : World} {B b : Nat} {X Y : Tab} {ul us va ul2 us2 va2 : Value} {ps qs : List LkA} {zs bs : List Da.An} (h : RunI w wr B b X ul us va ps zs) (ol : OwnL w5 B ul2 qs) (ow : ∀ p ∈ qs, OwnW w5 B (uV p) p.1.ws) (eq : qs.map (·.1) = Y.ls) (os : OwnS w5 B us2 Y.ss)
 (h6 : w6.heap[b]? = some (.cells #[.int .i64 Y.tm, .int .i64 Y.nx, ul2, us2] 26 (0, 0))) (hk : ∀ (k : Nat) (cs : Array Value) (t : TypeId), w5.heap[k]? = some (.cells cs t (0, 0)) → t ≠ 26 → t ≠ 55 → w6.heap[k]? = w5.heap[k]?) (hz : w6.heap[w.heap.size]? = some (.cells #[.int .i64 0, .int .i64 0, .slice none 0 0, .slice none 0 0] 26 (0, 0))) (oa : OwnAn w6 B va2 bs) (be : Below w.heap.size w w6) : RunI w w6 B b Y ul2 us2 va2 qs bs := by
 refine ⟨hz, h6, ol.kept fun g hg => ?_, fun p hp => (ow p hp).kept fun g hg => ?_, eq, os.kept fun g hg => ?_, oa, be, h.hb, h.hB, (Array.getElem?_eq_some_iff.1 h6).1⟩
 ·obtain ⟨c1, h1⟩ := own_block ol hg
  exact hk g c1 _ h1 (by decide) (by decide)
 ·obtain ⟨c1, h1⟩ := own_block (ow p hp) hg
  exact hk g c1 _ h1 (by decide) (by decide)
 ·obtain ⟨c1, h1⟩ := own_block os hg
  exact hk g c1 _ h1 (by decide) (by decide)
set_option maxHeartbeats 800000 in
theorem l05New_any (w : World) : Calls Tryd.prog 79 #[] w fun e w' => ∃ g1 g2, e = .returned (.agg #[.int .i64 0, .int .i64 1, .slice (some ⟨g1, 0, none⟩) 0 0, .slice (some ⟨g2, 0, none⟩) 0 0]) ∧ w'.heap[g1]? = some (.cells #[] 52 (0, 0)) ∧ w'.heap[g2]? = some (.cells #[] 57 (0, 0)) ∧ w.heap.size ≤ g1 ∧ w.heap.size ≤ g2 ∧ Below w.heap.size w w' := by
 have HB : Hid ((w.alloc (.cells #[.int .i64 0, .int .i64 0, .slice none 0 0, .slice none 0 0] 26)).heap[w.heap.size]? = some (.cells #[.int .i64 0, .int .i64 0, .slice none 0 0, .slice none 0 0] 26 (0, 0)) ∧ Below w.heap.size w (w.alloc (.cells #[.int .i64 0, .int .i64 0, .slice none 0 0, .slice none 0 0] 26))) := ⟨blk_new _ _ _, bel_new _ _⟩
 go_enter Tryd.func79, Tryd.ntmps79
 go_upto_region 1 with fail
 generalize w.alloc (.cells #[.int .i64 0, .int .i64 0, .slice none 0 0, .slice none 0 0] 26) = wb at HB ⊢
 have lb := (Array.getElem?_eq_some_iff.1 HB.out.1).1
 obtain ⟨z0, f0⟩ := blk_cell HB.out.1 0 (x := .int .i64 0) rfl
 obtain ⟨z1, f1⟩ := blk_cell HB.out.1 1 (x := .int .i64 0) rfl
 obtain ⟨z2, f2⟩ := blk_cell HB.out.1 2 (x := .slice none 0 0) rfl
 obtain ⟨z3, f3⟩ := blk_cell HB.out.1 3 (x := .slice none 0 0) rfl
 have HS : Hid (((((wb.setCell ⟨w.heap.size, 0, none⟩ (.int .i64 0)).setCell ⟨w.heap.size, 1, none⟩ (.int .i64 1)).setCell ⟨w.heap.size, 2, none⟩ (.slice (some ⟨wb.heap.size, 0, none⟩) 0 0)).setCell ⟨w.heap.size, 3, none⟩ (.slice (some ⟨wb.heap.size + 1, 0, none⟩) 0 0)).heap[w.heap.size]? = some (.cells #[.int .i64 0, .int .i64 1, .slice (some ⟨wb.heap.size, 0, none⟩) 0 0, .slice (some ⟨wb.heap.size + 1, 0, none⟩) 0 0] 26 (0, 0)) ∧ ((((wb.setCell ⟨w.heap.size, 0, none⟩ (.int .i64 0)).setCell ⟨w.heap.size, 1, none⟩ (.int .i64 1)).setCell ⟨w.heap.size, 2, none⟩ (.slice (some ⟨wb.heap.size, 0, none⟩) 0 0)).setCell ⟨w.heap.size, 3, none⟩ (.slice (some ⟨wb.heap.size + 1, 0, none⟩) 0 0)).heap.size = wb.heap.size ∧ Below w.heap.size w ((((wb.setCell ⟨w.heap.size, 0, none⟩ (.int .i64 0)).setCell ⟨w.heap.size, 1, none⟩ (.int .i64 1)).setCell ⟨w.heap.size, 2, none⟩ (.slice (some ⟨wb.heap.size, 0, none⟩) 0 0)).setCell ⟨w.heap.size, 3, none⟩ (.slice (some ⟨wb.heap.size + 1, 0, none⟩) 0 0))) := ⟨by
  have := blk_set (blk_set (blk_set (blk_set HB.out.1 0 (.int .i64 0)) 1 (.int .i64 1)) 2 (.slice (some ⟨wb.heap.size, 0, none⟩) 0 0)) 3 (.slice (some ⟨wb.heap.size + 1, 0, none⟩) 0 0)
  simpa only [List.setIfInBounds_toArray, List.set_cons_zero, List.set_cons_succ] using this, by simp, Below.setCell (Below.setCell (Below.setCell (Below.setCell HB.out.2 (p := ⟨w.heap.size, 0, none⟩) (Nat.le_refl _) _) (p := ⟨w.heap.size, 1, none⟩) (Nat.le_refl _) _) (p := ⟨w.heap.size, 2, none⟩) (Nat.le_refl _) _) (p := ⟨w.heap.size, 3, none⟩) (Nat.le_refl _) _⟩
 go_wp2_with fail
 generalize ((((wb.setCell ⟨w.heap.size, 0, none⟩ (.int .i64 0)).setCell ⟨w.heap.size, 1, none⟩ (.int .i64 1)).setCell ⟨w.heap.size, 2, none⟩ (.slice (some ⟨wb.heap.size, 0, none⟩) 0 0)).setCell ⟨w.heap.size, 3, none⟩ (.slice (some ⟨wb.heap.size + 1, 0, none⟩) 0 0)) = wc at HS ⊢
 obtain ⟨h1, h2, h3⟩ := HS.out
 have b1 := bel_new wc (.cells #[] 52)
 have b2 := bel_new (wc.alloc (.cells #[] 52)) (.cells #[] 57)
 have s1 : (wc.alloc (.cells #[] 52)).heap.size = wb.heap.size + 1 := by simp [h2]
 have b12 := b1.trans (b2.mono b1.size)
 have g1 : ((wc.alloc (.cells #[] 52)).alloc (.cells #[] 57)).heap[wb.heap.size]? = some (.cells #[] 52 (0, 0)) := by rw [← h2]; exact (b2.block _ (by simp)).trans (blk_new _ _ _)
 have g2 : ((wc.alloc (.cells #[] 52)).alloc (.cells #[] 57)).heap[wb.heap.size + 1]? = some (.cells #[] 57 (0, 0)) := by rw [← s1]; exact blk_new _ _ _
 have q := (b12.block _ (Array.getElem?_eq_some_iff.1 h1).1).trans h1
 have hfin : Below w.heap.size w ((wc.alloc (.cells #[] 52)).alloc (.cells #[] 57)) := h3.trans (b12.mono h3.size)
 generalize (wc.alloc (.cells #[] 52)).alloc (.cells #[] 57) = wf at g1 g2 q hfin ⊢
 have d0 := (blk_cell q 0 (x := .int .i64 0) rfl).1
 have d1 := (blk_cell q 1 (x := .int .i64 1) rfl).1
 have d2 := (blk_cell q 2 (x := .slice (some ⟨wb.heap.size, 0, none⟩) 0 0) rfl).1
 have d3 := (blk_cell q 3 (x := .slice (some ⟨wb.heap.size + 1, 0, none⟩) 0 0) rfl).1
 exact bodyPost_ret (v := .agg #[.int .i64 0, .int .i64 1, .slice (some ⟨wb.heap.size, 0, none⟩) 0 0, .slice (some ⟨wb.heap.size + 1, 0, none⟩) 0 0]) (by simp [results, Tryd.results79, go_sem, d0, d1, d2, d3]) rfl ⟨_, _, rfl, g1, g2, by omega, by omega, hfin⟩
end Go.Proofs.YtakfniknkejgpaaDoor.Ea

/- Requests: what both RequestOK functions answer, and their helpers. -/
namespace Go.Proofs.YtakfniknkejgpaaDoor.Rq
open Go.RowKit

def leB (k l : Int) : Bool := decide ((k = 1 ∨ k = 3) ∧ 1 ≤ l ∧ l ≤ 1000 ∨ (k = 2 ∨ k = 4) ∧ l = 0)
def reqB (c st k l : Int) (n : ByteArray) : Bool := inB c 0 255 && (inB st 1 65535 && (leB k l && opB n))
def reqV (c st k l : Int) (n : ByteArray) : Value := .agg #[.int .i64 c, .int .i64 st, .int .i64 k, .int .i64 l, .string n]

theorem lease_split (k l : Int) : leB k l = (inB k 1 4 && (inB l 0 1000 && (decide (0 < l) == (k == 1 || k == 3)))) := by
 unfold leB inB
 by_cases k1 : k = 1
 ·subst k1; rw [Bool.eq_iff_iff]; simp; omega
 by_cases k2 : k = 2
 ·subst k2; rw [Bool.eq_iff_iff]; simp; omega
 by_cases k3 : k = 3
 ·subst k3; rw [Bool.eq_iff_iff]; simp; omega
 by_cases k4 : k = 4
 ·subst k4; rw [Bool.eq_iff_iff]; simp; omega
 have e1 : ¬ (1 ≤ k ∧ k ≤ 4) := by omega
 rw [Bool.eq_iff_iff]
 simp [k1, k2, k3, k4]
 omega
theorem req_split (c st k l : Int) (n : ByteArray) : reqB c st k l n = (inB c 0 255 && (inB st 1 65535 && (inB k 1 4 && (inB l 0 1000 && (opB n && (decide (0 < l) == (k == 1 || k == 3))))))) := by
 unfold reqB
 rw [lease_split]
 cases inB c 0 255 <;> cases inB st 1 65535 <;> cases inB k 1 4 <;> cases inB l 0 1000 <;> cases opB n <;> simp

set_option maxHeartbeats 800000 in
theorem specRequestOK_any (c st k l : Int) (n : ByteArray) (w : World) (hs : n.size ≤ maxLen) :
 Calls Tryd.prog 80 #[reqV c st k l n] w fun e w' => e = .returned (.bool (reqB c st k l n)) ∧ Below w.heap.size w w' := by
 unfold reqV
 cases h1 : inB c 0 255
 ·have HO : Hid (reqB c st k l n = false) := by show reqB c st k l n = false; rw [req_split, h1]; rfl
  go_enter Tryd.func80, Tryd.ntmps80
  go_wp2_with (go_at_call 49; refine (l01In_any _ _ _ _).mono ?_; rintro e w' ⟨rfl, rfl⟩)
  go_ret
  exact ⟨ret_bool HO.out.symm, (Below.refl _ _).alloc (Nat.le_refl _) _⟩
 cases h2 : inB st 1 65535
 ·have HO : Hid (reqB c st k l n = false) := by show reqB c st k l n = false; rw [req_split, h1, h2]; rfl
  go_enter Tryd.func80, Tryd.ntmps80
  go_wp2_with (go_at_call 49; refine (l01In_any _ _ _ _).mono ?_; rintro e w' ⟨rfl, rfl⟩)
  go_ret
  exact ⟨ret_bool HO.out.symm, (Below.refl _ _).alloc (Nat.le_refl _) _⟩
 cases h3 : inB k 1 4
 ·have HO : Hid (reqB c st k l n = false) := by show reqB c st k l n = false; rw [req_split, h1, h2, h3]; rfl
  go_enter Tryd.func80, Tryd.ntmps80
  go_wp2_with (go_at_call 49; refine (l01In_any _ _ _ _).mono ?_; rintro e w' ⟨rfl, rfl⟩)
  go_ret
  exact ⟨ret_bool HO.out.symm, (Below.refl _ _).alloc (Nat.le_refl _) _⟩
 cases h4 : inB l 0 1000
 ·have HO : Hid (reqB c st k l n = false) := by show reqB c st k l n = false; rw [req_split, h1, h2, h3, h4]; rfl
  go_enter Tryd.func80, Tryd.ntmps80
  go_wp2_with (go_at_call 49; refine (l01In_any _ _ _ _).mono ?_; rintro e w' ⟨rfl, rfl⟩)
  go_ret
  exact ⟨ret_bool HO.out.symm, (Below.refl _ _).alloc (Nat.le_refl _) _⟩
 cases h5 : opB n
 ·have HO : Hid (reqB c st k l n = false) := by show reqB c st k l n = false; rw [req_split, h1, h2, h3, h4, h5]; rfl
  go_enter Tryd.func80, Tryd.ntmps80
  go_wp2_with (first | (go_at_call 49; refine (l01In_any _ _ _ _).mono ?_; rintro e w' ⟨rfl, rfl⟩) | (go_at_call 57; refine (l02Text_any _ _ hs).mono ?_; rintro e w' ⟨rfl, rfl⟩))
  go_ret
  exact ⟨ret_bool HO.out.symm, (Below.refl _ _).alloc (Nat.le_refl _) _⟩
 have HO : Hid (reqB c st k l n = (decide (0 < l) == (k == 1 || k == 3))) := by show reqB c st k l n = _; rw [req_split, h1, h2, h3, h4, h5]; simp
 by_cases k1 : k = 1
 ·subst k1
  go_enter Tryd.func80, Tryd.ntmps80
  go_wp2_with (first | (go_at_call 49; refine (l01In_any _ _ _ _).mono ?_; rintro e w' ⟨rfl, rfl⟩) | (go_at_call 57; refine (l02Text_any _ _ hs).mono ?_; rintro e w' ⟨rfl, rfl⟩))
  go_ret
  exact ⟨ret_bool (by rw [HO.out]; simp), (Below.refl _ _).alloc (Nat.le_refl _) _⟩
 have e1 : (k == 1) = false := beq_eq_false_iff_ne.2 k1
 go_enter Tryd.func80, Tryd.ntmps80
 go_wp2_with (first | (go_at_call 49; refine (l01In_any _ _ _ _).mono ?_; rintro e w' ⟨rfl, rfl⟩) | (go_at_call 57; refine (l02Text_any _ _ hs).mono ?_; rintro e w' ⟨rfl, rfl⟩))
 go_ret
 exact ⟨ret_bool (by rw [HO.out]; simp [e1]), (Below.refl _ _).alloc (Nat.le_refl _) _⟩
end Go.Proofs.YtakfniknkejgpaaDoor.Rq

/- The laws' own helpers over requests: their size, their copy. -/
namespace Go.Proofs.YtakfniknkejgpaaDoor.Rq
open Go.RowKit

theorem size_new (w : World) (o : Obj) : (w.alloc o).heap.size = w.heap.size + 1 := by simp
theorem ret_int {a b : Int} (h : a = b) : Ending.returned (.int .i64 a) = .returned (.int .i64 b) := by rw [h]
end Go.Proofs.YtakfniknkejgpaaDoor.Rq
