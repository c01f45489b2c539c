/- New groups: both functions that make them. -/
import Derived.Test.YtdhmmbbdckahmaaNga
import Derived.Deep.RegionLaw
import Derived.Laws.MakeOwn
import Derived.Lib.SliceRun
namespace Go.Proofs.Ytdhmmbbdckahmaa.Ng
open Go.RowKit Go.Proofs.Ytdhmmbbdckahmaa.Rg Go.Proofs.Ytdhmmbbdckahmaa.Tm Go.Proofs.Ytdhmmbbdckahmaa.Nr Go.Proofs.Ytdhmmbbdckahmaa.Is
open Go.Proofs.Ytdhmmbbdckahmaa.So hiding bel_new
open Go.Proofs.Ytdhmmbbdckahmaa.Sl (nth)
open Go.Proofs.Ytdhmmbbdckahmaa.Qm (inB)
open Go.Proofs.Ytdhmmbbdckahmaa.Rr (grown_set grown_trans grown_refl grown_alloc)
/-- A new replica's cells: its four slices. -/
structure RV where
  id : Int
  n : Int
  sa : Option Addr
  sc : Nat
  ca : Option Addr
  cc : Nat
  la : Option Addr
  lc : Nat
  ma : Option Addr
  mc : Nat
def clQ (p : RV) : List Value := [.int .i64 p.id, .int .i64 p.n, .int .i64 0, .bool true, .slice p.sa 8 p.sc, .slice p.ca 8 p.cc, .slice p.la 0 p.lc, .slice p.ma 0 p.mc]
theorem oneQ (p : RV) : ∀ u ∈ clQ p, u.oneCell' = true := by
  intro u hu
  simp [clQ] at hu
  rcases hu with rfl | rfl | rfl | rfl | rfl | rfl | rfl | rfl
  all_goals rfl
theorem lenQ : ∀ (ms : List RV), (ms.flatMap clQ).length = ms.length * 8
  | [] => rfl
  | x :: r => by rw [List.flatMap_cons, List.length_append, lenQ r]; show 8 + _ = _; simp only [List.length_cons]; omega
theorem atQ : ∀ (ms : List RV) (i : Nat) (x : RV) (j : Nat), ms[i]? = some x → j < 8 → (ms.flatMap clQ)[i * 8 + j]? = (clQ x)[j]?
  | [], i, x, j, h, _ => by simp at h
  | y :: r, 0, x, j, h, hj => by
    simp at h; subst h
    rw [List.flatMap_cons, List.getElem?_append_left (by show _ < 8; omega)]
    simp
  | y :: r, i + 1, x, j, h, hj => by
    have h' : r[i]? = some x := by simpa using h
    rw [List.flatMap_cons, List.getElem?_append_right (by show 8 ≤ _; omega)]
    rw [show (i + 1) * 8 + j - (clQ y).length = i * 8 + j by show _ - 8 = _; omega]
    exact atQ r i x j h' hj
def OwnQ (w : World) (B : Nat) (v : Value) (ms : List RV) : Prop := w.ownsRow B 65 8 v ms.length (ms.flatMap clQ)
theorem OwnQ.kept {w w' : World} {B : Nat} {v : Value} {ms : List RV} (h : OwnQ w B v ms) (hk : ∀ g, v.ownBlock = some g → w'.heap[g]? = w.heap[g]?) : OwnQ w' B v ms := by
  obtain ⟨hl, h⟩ := h
  refine ⟨hl, ?_⟩
  rcases h with h | ⟨g, cap, cur, rfl, h1, hg, h2⟩
  · exact .inl h
  · exact .inr ⟨g, cap, cur, rfl, h1, (hk g rfl).trans hg, h2⟩
theorem OwnQ.lt {w : World} {B : Nat} {v : Value} {ms : List RV} (h : OwnQ w B v ms) : ∀ g, v.ownBlock = some g → B ≤ g ∧ g < w.heap.size := World.ownsRow.lt h
theorem OwnQ.below {w w' : World} {B : Nat} {v : Value} {ms : List RV} (h : OwnQ w B v ms) (hb : Below w.heap.size w w') : OwnQ w' B v ms := h.kept fun g hg => hb.block g (h.lt g hg).2
theorem OwnQ.alloc {w : World} {B : Nat} {v : Value} {ms : List RV} (h : OwnQ w B v ms) (o : Obj) : OwnQ (w.alloc o) B v ms := h.below (bel_new _ _)
theorem OwnQ.made (w : World) (B : Nat) (hB : B ≤ w.heap.size) : OwnQ (w.alloc (.cells #[] 65)) B (.slice (some ⟨w.heap.size, 0, none⟩) 0 0) [] := World.ownsRow_made w #[] 0 hB (by decide) rfl
theorem OwnQ.at {w : World} {B : Nat} {v : Value} {ps : List RV} (h : OwnQ w B v ps) {i : Nat} {p : RV} (hi : ps[i]? = some p) : ∃ g cap cur, v = .slice (some ⟨g, 0, none⟩) ps.length cap ∧ ps.length ≤ cap ∧ B ≤ g ∧ w.heap[g]? = some (.cells cur 65 (0, 0)) ∧ ∀ j u, j < 8 → (clQ p)[j]? = some u → cur[i * 8 + j]? = some u := by
  obtain ⟨hl, h⟩ := h
  have hil := lt_at hi
  rcases h with ⟨rfl, h0⟩ | ⟨g, cap, cur, rfl, hB, hg, hc, _, hs, htk⟩
  · omega
  · refine ⟨g, cap, cur, rfl, hc, hB, hg, fun j u hj hu => ?_⟩
    have h1 := atQ ps i p j hi hj
    rw [← htk, List.getElem?_take, if_pos (by omega)] at h1
    rw [← Array.getElem?_toList, h1, hu]
theorem OwnQ.slice {w : World} {B : Nat} {v : Value} {ms : List RV} (h : OwnQ w B v ms) : ∃ a cap, v = .slice a ms.length cap := by
  obtain ⟨_, h | ⟨g, cap, cur, he, _⟩⟩ := h
  · exact ⟨none, 0, by rw [h.1, h.2]⟩
  · exact ⟨_, cap, he⟩
theorem OwnQ.set {w : World} {B b : Nat} {v : Value} {ms : List RV} (h : OwnQ w B v ms) (hb : some b ≠ v.ownBlock) (i : Nat) (x : Value) : OwnQ (w.setCell ⟨b, i, none⟩ x) B v ms :=
  h.kept fun g hg => blk_far (fun e => hb (by rw [hg, e])) i x
theorem OwnQ.mono {w : World} {B B' : Nat} {v : Value} {ms : List RV} (h : OwnQ w B v ms) (hb : B' ≤ B) : OwnQ w B' v ms := by
  obtain ⟨hl, h⟩ := h
  refine ⟨hl, ?_⟩
  rcases h with h | ⟨g, cap, cur, rfl, h1, hg, h2⟩
  · exact .inl h
  · exact .inr ⟨g, cap, cur, rfl, Nat.le_trans hb h1, hg, h2⟩
theorem OwnQ.nil (w : World) (B : Nat) : OwnQ w B (.slice none 0 0) [] := World.ownsRow_nil _ _ _ _
theorem ownQ_ne {w : World} {B x : Nat} {v : Value} {ms : List RV} {cs : Array Value} (h : OwnQ w B v ms) (hx : w.heap[x]? = some (.cells cs 27 (0, 0))) : some x ≠ v.ownBlock := by
  intro e
  obtain ⟨_, h | ⟨g', cap', cur, he, _, hgg, _⟩⟩ := h
  · rw [h.1] at e; simp [Value.ownBlock] at e
  · rw [he] at e
    simp [Value.ownBlock] at e
    subst e
    rw [hx] at hgg
    simp at hgg
theorem infoQ : (Try.prog.info? 65).map (fun i => (i.zero, i.size, i.bytes)) = some (some (.agg #[.int .i64 0, .int .i64 0, .int .i64 0, .bool false, .slice none 0 0, .slice none 0 0, .slice none 0 0, .slice none 0 0]), 8, 128) := by kernel_rfl
theorem listQ {P : Program} {ops : Array Oper} {rest : List Oper} {o : Oper} {a : Act} {Q : Exit → Act → World → Prop} (hgd : o.guard = none) (s x : Operand) (t : TypeId)
    (ho : o.op = .call { callee := .builtin .append, args := #[s, x], argTypes := #[t, t] }) (i : TypeInfo) (ht : P.underlying t = some (.slice 65)) (hi : P.info? 65 = some i) (hz : i.zero = some (.agg #[.int .i64 0, .int .i64 0, .int .i64 0, .bool false, .slice none 0 0, .slice none 0 0, .slice none 0 0, .slice none 0 0]))
    (hsize : i.size = 8) (hby : i.bytes = 128) (B : Nat) (w0 W : World) (v : Value) (ms : List RV) (m : RV) (hs : a.eval s = v) (hown : OwnQ W B v ms) (hg0 : Below B w0 W) (hB : B ≤ W.heap.size)
    (gx : Nat) (hx : a.eval x = .slice (some ⟨gx, 0, none⟩) 1 1) (hgx : W.heap.size = gx) (hlen : ms.length ≤ 1000000)
    (h : ∀ v' w', OwnQ w' B v' (ms ++ [m]) → Below B w0 w' → Kq W w' v v' → wpList P ops Q rest (a.put o.dst v') w') : wpList P ops Q (o :: rest) a (W.alloc (.cells (clQ m).toArray 65)) := by
  subst hgx
  have hown' := hown.alloc (.cells (clQ m).toArray 65)
  refine wpList_append_own_at (P := P) _ hgd s x t ho B 65 i _ 8 128 ht hi hz hsize hby rfl (by decide) v ms.length _ hs hown' ⟨W.heap.size, 0, none⟩ 1 1 (clQ m) hx rfl ?_ (oneQ m) (by unfold maxLen; omega) (by omega) (by simp; omega) ?_
  · intro j u hj
    have h2 : (⟨W.heap.size, 0, none⟩ : Addr).add j = ⟨W.heap.size, j, none⟩ := by unfold Addr.add; split <;> simp_all
    rw [h2, Joins.cell_of_block (heap_alloc_new W _), ← hj]
    simp
  · intro v' w' h1 h2 h3 h4
    refine h v' w' (by unfold OwnQ; rw [List.flatMap_append, List.length_append]; simpa using h1) ((hg0.alloc hB _).grown h2 (by simp; omega) (fun k hk => (hown'.lt k hk).1)) (fun k hk hn => ⟨(h2.block k (by simp; omega) hn).trans (Below.heap_alloc W _ k hk), fun e => ?_⟩)
    rcases h4 with h4 | h4
    · exact hn (e.trans h4)
    · rw [h4] at e
      simp at e
      omega

/-- The program's new replicas, from block B on: each with slots and certificates of its own. -/
def ImpP (B : Nat) (w : World) (n : Int) (ps : List RV) : Prop := ∀ (k : Nat) (p : RV), ps[k]? = some p → p.id = (k : Int) ∧ p.n = n ∧ (p.la = none ∧ p.lc = 0 ∧ p.ma = none ∧ p.mc = 0) ∧ ∃ gs gc, (p.sa = some ⟨gs, 0, none⟩ ∧ p.sc = 8 ∧ p.ca = some ⟨gc, 0, none⟩ ∧ p.cc = 8) ∧ B ≤ gs ∧ B ≤ gc ∧ MS w gs 8 (fun _ => (⟨#[]⟩, false, false)) ∧ MC w gc 8 (fun _ => ⟨#[]⟩)
/-- No two share a block. -/
def Apart (ps : List RV) : Prop := ∀ (k l : Nat) (p q : RV), k < l → ps[k]? = some p → ps[l]? = some q → p.sa ≠ q.sa ∧ p.ca ≠ q.ca
theorem ImpP.below {B : Nat} {w w' : World} {n : Int} {ps : List RV} (h : ImpP B w n ps) (hb : Below w.heap.size w w') : ImpP B w' n ps := fun k p hp => by
  obtain ⟨h1, h2, h3, gs, gc, h4, h5, h6, h7, h8⟩ := h k p hp
  exact ⟨h1, h2, h3, gs, gc, h4, h5, h6, h7.below hb, h8.below hb⟩
theorem ImpP.keep {B : Nat} {w w' : World} {n : Int} {ps : List RV} (h : ImpP B w n ps) (hk : ∀ k, k < w.heap.size → (∀ cs, w.heap[k]? ≠ some (.cells cs 65 (0, 0))) → (∀ cs, w.heap[k]? ≠ some (.cells cs 27 (0, 0))) → w'.heap[k]? = w.heap[k]?) : ImpP B w' n ps := fun k p hp => by
  obtain ⟨h1, h2, h3, gs, gc, h4, h5, h6, h7, h8⟩ := h k p hp
  refine ⟨h1, h2, h3, gs, gc, h4, h5, h6, h7.kept (hk gs h7.lt (fun cs e => ?_) (fun cs e => ?_)), h8.kept (hk gc h8.lt (fun cs e => ?_) (fun cs e => ?_))⟩
  · obtain ⟨A, a1, _⟩ := h7; rw [a1] at e; simp at e
  · obtain ⟨A, a1, _⟩ := h7; rw [a1] at e; simp at e
  · obtain ⟨A, a1, _⟩ := h8; rw [a1] at e; simp at e
  · obtain ⟨A, a1, _⟩ := h8; rw [a1] at e; simp at e
theorem ImpP.mono {B B' : Nat} {w : World} {n : Int} {ps : List RV} (h : ImpP B w n ps) (hb : B' ≤ B) : ImpP B' w n ps := fun k p hp => by
  obtain ⟨h1, h2, h3, gs, gc, h4, h5, h6, h7, h8⟩ := h k p hp
  exact ⟨h1, h2, h3, gs, gc, h4, Nat.le_trans hb h5, Nat.le_trans hb h6, h7, h8⟩
theorem get_snoc {α : Type} {xs : List α} {y : α} {k : Nat} {x : α} (h : (xs ++ [y])[k]? = some x) : (k < xs.length ∧ xs[k]? = some x) ∨ (k = xs.length ∧ x = y) := by
  by_cases e : k < xs.length
  · rw [List.getElem?_append_left e] at h; exact .inl ⟨e, h⟩
  · rw [List.getElem?_append_right (by omega)] at h
    have h1 := lt_at h
    simp at h1
    have e2 : k - xs.length = 0 := by omega
    rw [e2] at h
    simp at h
    exact .inr ⟨by omega, h.symm⟩
theorem ImpP.snoc {B : Nat} {w : World} {n : Int} {ps : List RV} {p : RV} (h : ImpP B w n ps) (h1 : p.id = (ps.length : Int)) (h2 : p.n = n) (h3 : p.la = none ∧ p.lc = 0 ∧ p.ma = none ∧ p.mc = 0) {gs gc : Nat} (h4 : p.sa = some ⟨gs, 0, none⟩ ∧ p.sc = 8 ∧ p.ca = some ⟨gc, 0, none⟩ ∧ p.cc = 8) (h5 : B ≤ gs) (h6 : B ≤ gc) (h7 : MS w gs 8 (fun _ => (⟨#[]⟩, false, false))) (h8 : MC w gc 8 (fun _ => ⟨#[]⟩)) : ImpP B w n (ps ++ [p]) := fun k q hq => by
  rcases get_snoc hq with ⟨_, hq⟩ | ⟨rfl, rfl⟩
  · exact h k q hq
  · exact ⟨h1, h2, h3, gs, gc, h4, h5, h6, h7, h8⟩
theorem Apart.snoc {B : Nat} {w : World} {n : Int} {ps : List RV} {p : RV} (h : Apart ps) (hi : ImpP B w n ps) {gs gc : Nat} (h4 : p.sa = some ⟨gs, 0, none⟩ ∧ p.sc = 8 ∧ p.ca = some ⟨gc, 0, none⟩ ∧ p.cc = 8) (hs : w.heap.size ≤ gs) (hc : w.heap.size ≤ gc) : Apart (ps ++ [p]) := fun k l a b hkl ha hb => by
  rcases get_snoc hb with ⟨hl, hb⟩ | ⟨rfl, rfl⟩
  · rcases get_snoc ha with ⟨_, ha⟩ | ⟨rfl, _⟩
    · exact h k l a b hkl ha hb
    · omega
  · rcases get_snoc ha with ⟨_, ha⟩ | ⟨rfl, _⟩
    · obtain ⟨_, _, _, gs', gc', e4, _, _, e7, e8⟩ := hi k a ha
      have l7 := e7.lt
      have l8 := e8.lt
      rw [e4.1, e4.2.2.1, h4.1, h4.2.2.1]
      exact ⟨fun e => by injection e with e; injection e with e; omega, fun e => by injection e with e; injection e with e; omega⟩
    · omega
/-- append of nothing: an empty slice wherever it points. -/
theorem list_none {P : Program} {ops : Array Oper} {rest : List Oper} {o : Oper} {a : Act} {Q : Exit → Act → World → Prop} (hgd : o.guard = none) (s x : Operand) (t : TypeId)
    (ho : o.op = .call { callee := .builtin .append, args := #[s, x], argTypes := #[t, t] }) (i : TypeInfo) (ht : P.underlying t = some (.slice 3)) (hi : P.info? 3 = some i) (hz : i.zero = some (.int .i64 0))
    (hsize : i.size = 1) (hby : i.bytes = 8) (B : Nat) (w0 W : World) (v : Value) (zs : List Int) (ad : Addr) (cap : Nat) (hs : a.eval s = v) (hown : OwnI W B v zs) (hg0 : Below B w0 W) (hB : B ≤ W.heap.size)
    (hx : a.eval x = .slice (some ad) 0 cap) (hlen : zs.length ≤ 1000000)
    (h : ∀ v' w', OwnI w' B v' zs → Below B w0 w' → W.heap.size ≤ w'.heap.size → wpList P ops Q rest (a.put o.dst v') w') : wpList P ops Q (o :: rest) a W := by
  refine wpList_append_own _ hgd s x t ho B 3 i (.int .i64 0) 1 8 ht hi hz hsize hby rfl (by decide) v zs.length _ hs hown ad 0 cap [] hx rfl ?_ ?_ (by unfold maxLen; omega) (by omega) hB ?_
  · intro j u hj
    simp at hj
  · intro c hc
    simp at hc
  · intro v' w' h1 h2 _
    refine h v' w' (by unfold OwnI; simpa using h1) ?_ h2.size
    exact hg0.grown h2 hB (fun k hk => (hown.lt k hk).1)
theorem ret_gc {a : Value} {c d : Int} (h : c = d) : Ending.returned (.tuple #[a, .int .i64 c]) = .returned (.tuple #[a, .int .i64 d]) := by rw [h]
set_option maxRecDepth 100000 in
set_option maxHeartbeats 3200000 in
theorem clone_any (v : Value) (xs : List Int) (w : World) (h : RowI w v xs) (hl : xs.length ≤ 4096) :
    Calls Try.prog 30 #[v] w fun e w' => ∃ v', e = .returned v' ∧ OwnI w' w.heap.size v' xs ∧ Below w.heap.size w w' := by
  obtain ⟨i0, hi0, hz0, hz1, hz2⟩ := info_parts info3
  have q22 : ∀ (w : World) (a : Option Addr) (n c n' c' : Nat), (binOp .eql 22 (.slice a n c) (.slice none n' c')).run Try.prog w = .ok (.bool a.isNone) w := fun w a n c n' c' => Lib.run_eql_slice_nil w _ _ a n c n' c' Try.underlying22
  obtain ⟨a, cap, rfl, h, _⟩ := h
  cases a with
  | none =>
    have h0 : xs = [] := by
      rcases h with h | ⟨b, off, e, _⟩
      · exact h
      · cases e
    subst h0
    have HO : Hid (OwnI w w.heap.size (.slice none 0 0) []) := World.ownsRow_nil _ _ _ _
    clear h
    go_enter Try.func30, Try.ntmps30
    go_wp2_with fail
    go_ret
    exact ⟨_, rfl, HO.out, Below.refl _ _⟩
  | some a =>
    have HO : Hid (OwnI (w.alloc (.cells #[] 3)) w.heap.size (.slice (some ⟨w.heap.size, 0, none⟩) 0 0) []) := OwnI.made w _ (Nat.le_refl _)
    rcases h with h | ⟨b, off, e, hc, hb, hcell⟩
    · subst h
      obtain ⟨b, off, spot⟩ := a
      go_enter Try.func30, Try.ntmps30
      go_wp2_with (at_builtin; go_must (refine list_none (by rfl) _ _ 22 (by rfl) i0 Try.underlying22 hi0 hz0 hz1 hz2 w.heap.size w _ _ [] _ cap (by rfl) HO.out (bel_new w _) (by simp) (by rfl) (by simp) ?_; intro v1 w1 o1 b1 _))
      go_ret
      exact ⟨_, rfl, o1, b1⟩
    · cases e
      have HC : Hid (∀ i, i < xs.length → w.cell? ⟨b, off + i, none⟩ = some (.int .i64 (nth xs i))) := hcell
      clear hcell
      go_enter Try.func30, Try.ntmps30
      go_wp2_with (at_builtin; go_must (refine list_ints (by rfl) _ _ 22 (by rfl) i0 Try.underlying22 hi0 hz0 hz1 hz2 w.heap.size w _ _ [] xs b off _ cap rfl (by rfl) HO.out (bel_new w _) (by simp) (by rfl) (fun i hi => ((bel_new w _).cell (p := ⟨b, off + i, none⟩) hb).trans (HC.out i hi)) (by simp; omega) ?_; intro v1 w1 o1 b1 _ _ _))
      go_ret
      exact ⟨_, rfl, by simpa using o1, b1⟩
end Go.Proofs.Ytdhmmbbdckahmaa.Ng
