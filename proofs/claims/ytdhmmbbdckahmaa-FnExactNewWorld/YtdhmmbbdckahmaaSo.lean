/- Sorting by insertion: what it leaves; spec.l04Sorted. -/
import Derived.Test.YtdhmmbbdckahmaaIs
import Derived.Laws.AppendOwn
import Derived.Lib.SmallJoins
namespace Go.Proofs.Ytdhmmbbdckahmaa.So
open Go.RowKit Go.Proofs.Ytdhmmbbdckahmaa.Sl Go.Proofs.Ytdhmmbbdckahmaa.Is

/-- The elements k and k + 1 change places. -/
def sw : Nat → List Int → List Int
  | 0, a :: b :: r => b :: a :: r
  | k + 1, a :: r => a :: sw k r
  | _, l => l
theorem sw_length : ∀ (k : Nat) (l : List Int), (sw k l).length = l.length
  | 0, [] => rfl
  | 0, [_] => rfl
  | 0, _ :: _ :: _ => rfl
  | _ + 1, [] => rfl
  | k + 1, a :: r => by rw [sw, List.length_cons, List.length_cons, sw_length k r]
theorem sw_perm : ∀ (k : Nat) (l : List Int), (sw k l).Perm l
  | 0, [] => .refl _
  | 0, [_] => .refl _
  | 0, a :: b :: r => .swap a b r
  | _ + 1, [] => .refl _
  | k + 1, a :: r => .cons a (sw_perm k r)
theorem nth_cons_succ (a : Int) (r : List Int) (p : Nat) : nth (a :: r) (p + 1) = nth r p := by unfold nth; simp
theorem sw_nth : ∀ (k : Nat) (l : List Int) (p : Nat), k + 1 < l.length → nth (sw k l) p = if p = k then nth l (k + 1) else if p = k + 1 then nth l k else nth l p
  | 0, a :: b :: r, p, _ => by
    match p with
    | 0 => rfl
    | 1 => rfl
    | p + 2 => rw [if_neg (by omega), if_neg (by omega)]; rfl
  | k + 1, a :: r, p, h => by
    rw [sw]
    match p with
    | 0 => rw [if_neg (by omega), if_neg (by omega)]; rfl
    | p + 1 =>
      rw [nth_cons_succ, nth_cons_succ, nth_cons_succ, nth_cons_succ, sw_nth k r p (by simpa using h)]
      simp only [Nat.add_right_cancel_iff]
theorem sw_k {k : Nat} {l : List Int} (h : k + 1 < l.length) : nth (sw k l) k = nth l (k + 1) := by rw [sw_nth k l k h, if_pos rfl]
theorem sw_k1 {k : Nat} {l : List Int} (h : k + 1 < l.length) : nth (sw k l) (k + 1) = nth l k := by rw [sw_nth k l (k + 1) h, if_neg (Nat.succ_ne_self k), if_pos rfl]
theorem sw_o {k p : Nat} {l : List Int} (h : k + 1 < l.length) (h1 : p ≠ k) (h2 : p ≠ k + 1) : nth (sw k l) p = nth l p := by rw [sw_nth k l p h, if_neg h1, if_neg h2]
/-- The first m of them are in order. -/
def Asc (m : Nat) (ys : List Int) : Prop := ∀ p q, p < q → q < m → nth ys p ≤ nth ys q
/-- The first m of them are in order, but for the one at k, which those behind it are not below. -/
def Ins (k m : Nat) (ys : List Int) : Prop := ∀ p q, p < q → q < m → q ≠ k → nth ys p ≤ nth ys q
theorem Asc.ins {m : Nat} {ys : List Int} (h : Asc m ys) : Ins m (m + 1) ys := fun p q h1 h2 h3 => h p q h1 (by omega)
theorem Ins.done {k m : Nat} {ys : List Int} (h : Ins k m ys) (hk : k = 0 ∨ nth ys (k - 1) ≤ nth ys k) : Asc m ys := by
  intro p q h1 h2
  by_cases e : q = k
  · subst e
    rcases hk with hk | hk
    · omega
    · by_cases e2 : p = q - 1
      · subst e2; exact hk
      · exact Int.le_trans (h p (q - 1) (by omega) (by omega) (by omega)) hk
  · exact h p q h1 h2 e
theorem Ins.step {k m : Nat} {ys : List Int} (h : Ins (k + 1) m ys) (hm : k + 1 < m) (hl : k + 1 < ys.length) (hgt : nth ys (k + 1) < nth ys k) : Ins k m (sw k ys) := by
  intro p q h1 h2 h3
  by_cases e1 : q = k + 1
  · subst e1
    rw [sw_k1 hl]
    by_cases e2 : p = k
    · subst e2; rw [sw_k hl]; omega
    · rw [sw_o hl e2 (by omega)]
      exact h p k (by omega) (by omega) (by omega)
  · rw [sw_o hl h3 e1]
    by_cases e2 : p = k
    · subst e2; rw [sw_k hl]
      exact h (p + 1) q (by omega) h2 e1
    · by_cases e3 : p = k + 1
      · subst e3; rw [sw_k1 hl]
        exact h k q (by omega) h2 e1
      · rw [sw_o hl e2 e3]; exact h p q h1 h2 e1
/-- Two lists in order with the same elements are the same. -/
theorem asc_pair {ys : List Int} (h : Asc ys.length ys) : ys.Pairwise (· ≤ ·) := by
  rw [List.pairwise_iff_getElem]
  intro i j hi hj hij
  have := h i j hij hj
  unfold nth at this
  rwa [List.getD_eq_getElem?_getD, List.getD_eq_getElem?_getD, List.getElem?_eq_getElem hi, List.getElem?_eq_getElem hj] at this
theorem asc_same {xs ys : List Int} (hx : xs.Pairwise (· ≤ ·)) (hy : ys.Pairwise (· ≤ ·)) (h : xs.Perm ys) : xs = ys :=
  h.eq_of_pairwise (fun _ _ _ _ h1 h2 => Int.le_antisymm h1 h2) hx hy

/-- The block g is a row of integers of the call's own: ys stand first. -/
def BlkI (w : World) (g cap : Nat) (ys : List Int) : Prop :=
  ∃ cur, w.heap[g]? = some (.cells cur 3 (0, 0)) ∧ cur.size = cap ∧ ys.length ≤ cap ∧ cap ≤ maxLen ∧ ∀ i, i < ys.length → cur[i]? = some (.int .i64 (nth ys i))
theorem BlkI.cell {w : World} {g cap : Nat} {ys : List Int} (h : BlkI w g cap ys) {i : Nat} (hi : i < ys.length) : w.cell? ⟨g, i, none⟩ = some (.int .i64 (nth ys i)) ∧ w.frozen? ⟨g, i, none⟩ = false := by
  obtain ⟨cur, h1, _, _, _, h2⟩ := h
  exact ⟨(Joins.cell_of_block h1 i).trans (h2 i hi), by simp [World.frozen?, h1]⟩
theorem BlkI.lt {w : World} {g cap : Nat} {ys : List Int} (h : BlkI w g cap ys) : g < w.heap.size := by
  obtain ⟨cur, h1, _⟩ := h
  exact (Array.getElem?_eq_some_iff.1 h1).1
theorem BlkI.of {w : World} {B g n cap : Nat} {ys : List Int} (h : OwnI w B (.slice (some ⟨g, 0, none⟩) n cap) ys) : BlkI w g cap ys ∧ n = ys.length ∧ B ≤ g := by
  obtain ⟨hl, h⟩ := h
  rcases h with ⟨h0, _⟩ | ⟨g', cap', cur, hv, hB, hg, hc, hm, hs, htk⟩
  · cases h0
  · cases hv
    refine ⟨⟨cur, hg, by omega, hc, hm, fun i hi => ?_⟩, rfl, hB⟩
    have h1 : (cur.toList.take (ys.length * 1))[i]? = some (.int .i64 (nth ys i)) := by rw [htk, List.getElem?_map, nth_at hi]; rfl
    rw [List.getElem?_take] at h1
    split at h1
    · simpa using h1
    · cases h1
theorem BlkI.own {w : World} {B g cap : Nat} {ys : List Int} (h : BlkI w g cap ys) (hB : B ≤ g) : OwnI w B (.slice (some ⟨g, 0, none⟩) ys.length cap) ys := by
  obtain ⟨cur, h1, h2, h3, h4, h5⟩ := h
  refine ⟨by simp, .inr ⟨g, cap, cur, rfl, hB, h1, h3, h4, by omega, ?_⟩⟩
  apply List.ext_getElem?
  intro i
  rw [List.getElem?_take, List.getElem?_map]
  by_cases hi : i < ys.length
  · rw [if_pos (by omega), nth_at hi, Array.getElem?_toList, h5 i hi]; rfl
  · rw [if_neg (by omega), List.getElem?_eq_none (by omega)]; rfl
theorem BlkI.swap {w : World} {g cap k : Nat} {ys : List Int} (h : BlkI w g cap ys) (hk : k + 1 < ys.length) :
    BlkI ((w.setCell ⟨g, k + 1, none⟩ (.int .i64 (nth ys k))).setCell ⟨g, k, none⟩ (.int .i64 (nth ys (k + 1)))) g cap (sw k ys) := by
  obtain ⟨cur, h1, h2, h3, h4, h5⟩ := h
  refine ⟨(cur.setIfInBounds (k + 1) (.int .i64 (nth ys k))).setIfInBounds k (.int .i64 (nth ys (k + 1))), Joins.block_setCell (i := k) (Joins.block_setCell (i := k + 1) h1 _) _, by simpa using h2, by rw [sw_length]; exact h3, h4, fun i hi => ?_⟩
  rw [sw_length] at hi
  rw [Array.getElem?_setIfInBounds, sw_nth k ys i hk]
  by_cases e : k = i
  · rw [if_pos e, if_pos (by simp; omega), if_pos e.symm]
  · rw [if_neg e, if_neg (fun x => e x.symm), Array.getElem?_setIfInBounds]
    by_cases e2 : k + 1 = i
    · rw [if_pos e2, if_pos (by omega), if_pos e2.symm]
    · rw [if_neg e2, if_neg (fun x => e2 x.symm)]
      exact h5 i hi
theorem below_set2 {B : Nat} {w0 w : World} (h : Below B w0 w) {g i j : Nat} (hB : B ≤ g) (x y : Value) : Below B w0 ((w.setCell ⟨g, i, none⟩ x).setCell ⟨g, j, none⟩ y) := by
  refine ⟨h.os, h.tape, h.output, by simpa using h.size, fun k hk => ?_⟩
  rw [Below.heap_setCell _ ⟨g, j, none⟩ y k (by simp; omega), Below.heap_setCell _ ⟨g, i, none⟩ x k (by simp; omega)]
  exact h.block k hk
theorem below_n {B : Nat} {w0 w : World} (h : Below B w0 w) {n : Nat} : Below B w0 (w.drewN n) := ⟨h.os, h.tape, h.output, h.size, h.block⟩
theorem BlkI.kept {w w' : World} {g cap : Nat} {ys : List Int} (h : BlkI w g cap ys) (hb : w'.heap[g]? = w.heap[g]?) : BlkI w' g cap ys := by
  obtain ⟨cur, h1, h2⟩ := h
  exact ⟨cur, hb.trans h1, h2⟩

/-- 'append(list, xs ..)' of integers in a plain region. -/
theorem list_ints {P : Program} {ops : Array Oper} {rest : List Oper} {o : Oper} {a : Act} {Q : Exit → Act → World → Prop} (hgd : o.guard = none) (s x : Operand) (t : TypeId)
    (ho : o.op = .call { callee := .builtin .append, args := #[s, x], argTypes := #[t, t] }) (i : TypeInfo) (ht : P.underlying t = some (.slice 3)) (hi : P.info? 3 = some i) (hz : i.zero = some (.int .i64 0))
    (hsize : i.size = 1) (hby : i.bytes = 8) (B : Nat) (w0 W : World) (v : Value) (zs xs : List Int) (b off n cap : Nat) (hn : xs.length = n) (hs : a.eval s = v) (hown : OwnI W B v zs) (hg0 : Below B w0 W) (hB : B ≤ W.heap.size)
    (hx : a.eval x = .slice (some ⟨b, off, none⟩) n cap) (hc : ∀ i, i < xs.length → W.cell? ⟨b, off + i, none⟩ = some (.int .i64 (nth xs i))) (hlen : zs.length + xs.length ≤ 1000000)
    (h : ∀ v' w', OwnI w' B v' (zs ++ xs) → Below B w0 w' → W.heap.size ≤ w'.heap.size → (∀ k, k < W.heap.size → some k ≠ v.ownBlock → w'.heap[k]? = W.heap[k]?) → (v' = .slice none 0 0 ↔ v = .slice none 0 0 ∧ n = 0) → wpList P ops Q rest (a.put o.dst v') w') : wpList P ops Q (o :: rest) a W := by
  subst hn
  refine wpList_append_own _ hgd s x t ho B 3 i (.int .i64 0) 1 8 ht hi hz hsize hby rfl (by decide) v zs.length _ hs hown ⟨b, off, none⟩ xs.length cap (xs.map (Value.int .i64)) hx (by simp) ?_ ?_ (by unfold maxLen; omega) (by omega) hB ?_
  · intro j u hj
    have hj' : j < xs.length := by have := (List.getElem?_eq_some_iff.1 hj).1; simpa using this
    have h2 : (⟨b, off, none⟩ : Addr).add j = ⟨b, off + j, none⟩ := by unfold Addr.add; split <;> simp_all
    rw [h2, hc j hj', ← hj, List.getElem?_map, nth_at hj']; rfl
  · intro c hc
    obtain ⟨z, _, rfl⟩ := List.mem_map.1 hc
    rfl
  · intro v' w' h1 h2 h3
    refine h v' w' (by unfold OwnI; simpa using h1) ?_ h2.size (fun k hk hne => h2.block k hk hne) h3
    exact hg0.grown h2 hB (fun k hk => (hown.lt k hk).1)
theorem OwnI.made (w : World) (B : Nat) (hB : B ≤ w.heap.size) : OwnI (w.alloc (.cells #[] 3)) B (.slice (some ⟨w.heap.size, 0, none⟩) 0 0) [] :=
  World.ownsRow_made w #[] 0 hB (by decide) rfl
theorem bel_new (w : World) (o : Obj) : Below w.heap.size w (w.alloc o) := (Below.refl _ _).alloc (Nat.le_refl _) _
theorem OwnI.some {w : World} {B : Nat} {v : Value} {xs : List Int} (h : OwnI w B v xs) (hne : v ≠ .slice none 0 0) : ∃ g cap, v = .slice (some ⟨g, 0, none⟩) xs.length cap := by
  obtain ⟨_, h⟩ := h
  rcases h with ⟨h, _⟩ | ⟨g, cap, _, h, _⟩
  · exact absurd h hne
  · exact ⟨g, cap, h⟩

end Go.Proofs.Ytdhmmbbdckahmaa.So
