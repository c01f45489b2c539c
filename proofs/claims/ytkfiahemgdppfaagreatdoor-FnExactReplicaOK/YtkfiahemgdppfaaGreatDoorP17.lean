/- Texts put together: So, Ai, Iz. -/
import Derived.Test.YtkfiahemgdppfaaGreatDoorP16
import Derived.Laws.AppendOwn
import Derived.Lib.SmallJoins
import Derived.Test.YtkfiahemgdppfaaGreatDoorP10
import Derived.BigQuiet
import Derived.Deep.RegionLaw
import Derived.BigRegion
/- Sorting by insertion: what it leaves; spec.l04Sorted. -/
namespace Go.Proofs.YtkfiahemgdppfaaGreatDoor.So
open Go.RowKit Go.Proofs.YtkfiahemgdppfaaGreatDoor.Sl Go.Proofs.YtkfiahemgdppfaaGreatDoor.Is

/-- The elements k and k + 1 change places. -/
def sw : Nat → List Int → List Int
  | 0, a :: b :: r => b :: a :: r
  | k + 1, a :: r => a :: sw k r
  | _, l => l
theorem sw_length : ∀ (k : Nat) (l : List Int), (sw k l).length = l.length
  | 0, [] => rfl
  | 0, [_] => rfl
  | 0, _ :: _ :: _ => rfl
  | _ + 1, [] => rfl
  | k + 1, a :: r => by rw [sw, List.length_cons, List.length_cons, sw_length k r]
theorem sw_perm : ∀ (k : Nat) (l : List Int), (sw k l).Perm l
  | 0, [] => .refl _
  | 0, [_] => .refl _
  | 0, a :: b :: r => .swap a b r
  | _ + 1, [] => .refl _
  | k + 1, a :: r => .cons a (sw_perm k r)
theorem nth_cons_succ (a : Int) (r : List Int) (p : Nat) : nth (a :: r) (p + 1) = nth r p := by unfold nth; simp
theorem sw_nth : ∀ (k : Nat) (l : List Int) (p : Nat), k + 1 < l.length → nth (sw k l) p = if p = k then nth l (k + 1) else if p = k + 1 then nth l k else nth l p
  | 0, a :: b :: r, p, _ => by
    match p with
    | 0 => rfl
    | 1 => rfl
    | p + 2 => rw [if_neg (by omega), if_neg (by omega)]; rfl
  | k + 1, a :: r, p, h => by
    rw [sw]
    match p with
    | 0 => rw [if_neg (by omega), if_neg (by omega)]; rfl
    | p + 1 =>
      rw [nth_cons_succ, nth_cons_succ, nth_cons_succ, nth_cons_succ, sw_nth k r p (by simpa using h)]
      simp only [Nat.add_right_cancel_iff]
theorem sw_k {k : Nat} {l : List Int} (h : k + 1 < l.length) : nth (sw k l) k = nth l (k + 1) := by rw [sw_nth k l k h, if_pos rfl]
theorem sw_k1 {k : Nat} {l : List Int} (h : k + 1 < l.length) : nth (sw k l) (k + 1) = nth l k := by rw [sw_nth k l (k + 1) h, if_neg (Nat.succ_ne_self k), if_pos rfl]
theorem sw_o {k p : Nat} {l : List Int} (h : k + 1 < l.length) (h1 : p ≠ k) (h2 : p ≠ k + 1) : nth (sw k l) p = nth l p := by rw [sw_nth k l p h, if_neg h1, if_neg h2]
/-- The first m of them are in order. -/
def Asc (m : Nat) (ys : List Int) : Prop := ∀ p q, p < q → q < m → nth ys p ≤ nth ys q
/-- The first m of them are in order, but for the one at k, which those behind it are not below. -/
def Ins (k m : Nat) (ys : List Int) : Prop := ∀ p q, p < q → q < m → q ≠ k → nth ys p ≤ nth ys q
theorem Asc.ins {m : Nat} {ys : List Int} (h : Asc m ys) : Ins m (m + 1) ys := fun p q h1 h2 h3 => h p q h1 (by omega)
theorem Ins.done {k m : Nat} {ys : List Int} (h : Ins k m ys) (hk : k = 0 ∨ nth ys (k - 1) ≤ nth ys k) : Asc m ys := by
  intro p q h1 h2
  by_cases e : q = k
  · subst e
    rcases hk with hk | hk
    · omega
    · by_cases e2 : p = q - 1
      · subst e2; exact hk
      · exact Int.le_trans (h p (q - 1) (by omega) (by omega) (by omega)) hk
  · exact h p q h1 h2 e
theorem Ins.step {k m : Nat} {ys : List Int} (h : Ins (k + 1) m ys) (hm : k + 1 < m) (hl : k + 1 < ys.length) (hgt : nth ys (k + 1) < nth ys k) : Ins k m (sw k ys) := by
  intro p q h1 h2 h3
  by_cases e1 : q = k + 1
  · subst e1
    rw [sw_k1 hl]
    by_cases e2 : p = k
    · subst e2; rw [sw_k hl]; omega
    · rw [sw_o hl e2 (by omega)]
      exact h p k (by omega) (by omega) (by omega)
  · rw [sw_o hl h3 e1]
    by_cases e2 : p = k
    · subst e2; rw [sw_k hl]
      exact h (p + 1) q (by omega) h2 e1
    · by_cases e3 : p = k + 1
      · subst e3; rw [sw_k1 hl]
        exact h k q (by omega) h2 e1
      · rw [sw_o hl e2 e3]; exact h p q h1 h2 e1
/-- Two lists in order with the same elements are the same. -/
theorem asc_pair {ys : List Int} (h : Asc ys.length ys) : ys.Pairwise (· ≤ ·) := by
  rw [List.pairwise_iff_getElem]
  intro i j hi hj hij
  have := h i j hij hj
  unfold nth at this
  rwa [List.getD_eq_getElem?_getD, List.getD_eq_getElem?_getD, List.getElem?_eq_getElem hi, List.getElem?_eq_getElem hj] at this
theorem asc_same {xs ys : List Int} (hx : xs.Pairwise (· ≤ ·)) (hy : ys.Pairwise (· ≤ ·)) (h : xs.Perm ys) : xs = ys :=
  h.eq_of_pairwise (fun _ _ _ _ h1 h2 => Int.le_antisymm h1 h2) hx hy

/-- The block g is a row of integers of the call's own: ys stand first. -/
def BlkI (w : World) (g cap : Nat) (ys : List Int) : Prop :=
  ∃ cur, w.heap[g]? = some (.cells cur 3 (0, 0)) ∧ cur.size = cap ∧ ys.length ≤ cap ∧ cap ≤ maxLen ∧ ∀ i, i < ys.length → cur[i]? = some (.int .i64 (nth ys i))
theorem BlkI.cell {w : World} {g cap : Nat} {ys : List Int} (h : BlkI w g cap ys) {i : Nat} (hi : i < ys.length) : w.cell? ⟨g, i, none⟩ = some (.int .i64 (nth ys i)) ∧ w.frozen? ⟨g, i, none⟩ = false := by
  obtain ⟨cur, h1, _, _, _, h2⟩ := h
  exact ⟨(Joins.cell_of_block h1 i).trans (h2 i hi), by simp [World.frozen?, h1]⟩
theorem BlkI.lt {w : World} {g cap : Nat} {ys : List Int} (h : BlkI w g cap ys) : g < w.heap.size := by
  obtain ⟨cur, h1, _⟩ := h
  exact (Array.getElem?_eq_some_iff.1 h1).1
theorem BlkI.of {w : World} {B g n cap : Nat} {ys : List Int} (h : OwnI w B (.slice (some ⟨g, 0, none⟩) n cap) ys) : BlkI w g cap ys ∧ n = ys.length ∧ B ≤ g := by
  obtain ⟨hl, h⟩ := h
  rcases h with ⟨h0, _⟩ | ⟨g', cap', cur, hv, hB, hg, hc, hm, hs, htk⟩
  · cases h0
  · cases hv
    refine ⟨⟨cur, hg, by omega, hc, hm, fun i hi => ?_⟩, rfl, hB⟩
    have h1 : (cur.toList.take (ys.length * 1))[i]? = some (.int .i64 (nth ys i)) := by rw [htk, List.getElem?_map, nth_at hi]; rfl
    rw [List.getElem?_take] at h1
    split at h1
    · simpa using h1
    · cases h1
theorem BlkI.own {w : World} {B g cap : Nat} {ys : List Int} (h : BlkI w g cap ys) (hB : B ≤ g) : OwnI w B (.slice (some ⟨g, 0, none⟩) ys.length cap) ys := by
  obtain ⟨cur, h1, h2, h3, h4, h5⟩ := h
  refine ⟨by simp, .inr ⟨g, cap, cur, rfl, hB, h1, h3, h4, by omega, ?_⟩⟩
  apply List.ext_getElem?
  intro i
  rw [List.getElem?_take, List.getElem?_map]
  by_cases hi : i < ys.length
  · rw [if_pos (by omega), nth_at hi, Array.getElem?_toList, h5 i hi]; rfl
  · rw [if_neg (by omega), List.getElem?_eq_none (by omega)]; rfl
theorem BlkI.swap {w : World} {g cap k : Nat} {ys : List Int} (h : BlkI w g cap ys) (hk : k + 1 < ys.length) :
    BlkI ((w.setCell ⟨g, k + 1, none⟩ (.int .i64 (nth ys k))).setCell ⟨g, k, none⟩ (.int .i64 (nth ys (k + 1)))) g cap (sw k ys) := by
  obtain ⟨cur, h1, h2, h3, h4, h5⟩ := h
  refine ⟨(cur.setIfInBounds (k + 1) (.int .i64 (nth ys k))).setIfInBounds k (.int .i64 (nth ys (k + 1))), Joins.block_setCell (i := k) (Joins.block_setCell (i := k + 1) h1 _) _, by simpa using h2, by rw [sw_length]; exact h3, h4, fun i hi => ?_⟩
  rw [sw_length] at hi
  rw [Array.getElem?_setIfInBounds, sw_nth k ys i hk]
  by_cases e : k = i
  · rw [if_pos e, if_pos (by simp; omega), if_pos e.symm]
  · rw [if_neg e, if_neg (fun x => e x.symm), Array.getElem?_setIfInBounds]
    by_cases e2 : k + 1 = i
    · rw [if_pos e2, if_pos (by omega), if_pos e2.symm]
    · rw [if_neg e2, if_neg (fun x => e2 x.symm)]
      exact h5 i hi
theorem below_set2 {B : Nat} {w0 w : World} (h : Below B w0 w) {g i j : Nat} (hB : B ≤ g) (x y : Value) : Below B w0 ((w.setCell ⟨g, i, none⟩ x).setCell ⟨g, j, none⟩ y) := by
  refine ⟨h.os, h.tape, h.output, by simpa using h.size, fun k hk => ?_⟩
  rw [Below.heap_setCell _ ⟨g, j, none⟩ y k (by simp; omega), Below.heap_setCell _ ⟨g, i, none⟩ x k (by simp; omega)]
  exact h.block k hk
theorem below_n {B : Nat} {w0 w : World} (h : Below B w0 w) {n : Nat} : Below B w0 (w.drewN n) := ⟨h.os, h.tape, h.output, h.size, h.block⟩
theorem BlkI.kept {w w' : World} {g cap : Nat} {ys : List Int} (h : BlkI w g cap ys) (hb : w'.heap[g]? = w.heap[g]?) : BlkI w' g cap ys := by
  obtain ⟨cur, h1, h2⟩ := h
  exact ⟨cur, hb.trans h1, h2⟩

/-- 'append(list, xs ..)' of integers in a plain region. -/
theorem list_ints {P : Program} {ops : Array Oper} {rest : List Oper} {o : Oper} {a : Act} {Q : Exit → Act → World → Prop} (hgd : o.guard = none) (s x : Operand) (t : TypeId)
    (ho : o.op = .call { callee := .builtin .append, args := #[s, x], argTypes := #[t, t] }) (i : TypeInfo) (ht : P.underlying t = some (.slice 3)) (hi : P.info? 3 = some i) (hz : i.zero = some (.int .i64 0))
    (hsize : i.size = 1) (hby : i.bytes = 8) (B : Nat) (w0 W : World) (v : Value) (zs xs : List Int) (b off n cap : Nat) (hn : xs.length = n) (hs : a.eval s = v) (hown : OwnI W B v zs) (hg0 : Below B w0 W) (hB : B ≤ W.heap.size)
    (hx : a.eval x = .slice (some ⟨b, off, none⟩) n cap) (hc : ∀ i, i < xs.length → W.cell? ⟨b, off + i, none⟩ = some (.int .i64 (nth xs i))) (hlen : zs.length + xs.length ≤ 1000000)
    (h : ∀ v' w', OwnI w' B v' (zs ++ xs) → Below B w0 w' → W.heap.size ≤ w'.heap.size → (∀ k, k < W.heap.size → some k ≠ v.ownBlock → w'.heap[k]? = W.heap[k]?) → (v' = .slice none 0 0 ↔ v = .slice none 0 0 ∧ n = 0) → wpList P ops Q rest (a.put o.dst v') w') : wpList P ops Q (o :: rest) a W := by
  subst hn
  refine wpList_append_own _ hgd s x t ho B 3 i (.int .i64 0) 1 8 ht hi hz hsize hby rfl (by decide) v zs.length _ hs hown ⟨b, off, none⟩ xs.length cap (xs.map (Value.int .i64)) hx (by simp) ?_ ?_ (by unfold maxLen; omega) (by omega) hB ?_
  · intro j u hj
    have hj' : j < xs.length := by have := (List.getElem?_eq_some_iff.1 hj).1; simpa using this
    have h2 : (⟨b, off, none⟩ : Addr).add j = ⟨b, off + j, none⟩ := by unfold Addr.add; split <;> simp_all
    rw [h2, hc j hj', ← hj, List.getElem?_map, nth_at hj']; rfl
  · intro c hc
    obtain ⟨z, _, rfl⟩ := List.mem_map.1 hc
    rfl
  · intro v' w' h1 h2 h3
    refine h v' w' (by unfold OwnI; simpa using h1) ?_ h2.size (fun k hk hne => h2.block k hk hne) h3
    exact hg0.grown h2 hB (fun k hk => (hown.lt k hk).1)
theorem OwnI.made (w : World) (B : Nat) (hB : B ≤ w.heap.size) : OwnI (w.alloc (.cells #[] 3)) B (.slice (some ⟨w.heap.size, 0, none⟩) 0 0) [] :=
  World.ownsRow_made w #[] 0 hB (by decide) rfl
theorem bel_new (w : World) (o : Obj) : Below w.heap.size w (w.alloc o) := (Below.refl _ _).alloc (Nat.le_refl _) _
theorem OwnI.some {w : World} {B : Nat} {v : Value} {xs : List Int} (h : OwnI w B v xs) (hne : v ≠ .slice none 0 0) : ∃ g cap, v = .slice (some ⟨g, 0, none⟩) xs.length cap := by
  obtain ⟨_, h⟩ := h
  rcases h with ⟨h, _⟩ | ⟨g, cap, _, h, _⟩
  · exact absurd h hne
  · exact ⟨g, cap, h⟩

set_option maxRecDepth 100000 in
set_option maxHeartbeats 1600000 in
theorem sorted_any (v : Value) (xs : List Int) (w : World) (h : RowI w v xs) (hl : xs.length ≤ 1000) (hne : xs ≠ []) :
    Calls Tryz.prog 102 #[v] w fun e w' => ∃ g cap ys, e = .returned (.slice (some ⟨g, 0, none⟩) xs.length cap) ∧ BlkI w' g cap ys ∧ ys.length = xs.length ∧ ys.Perm xs ∧ Asc ys.length ys ∧ w.heap.size ≤ g ∧ Below w.heap.size w w' := by
  have HR : Hid (∀ x ∈ xs, -9223372036854775808 ≤ x ∧ x ≤ 9223372036854775807) := by obtain ⟨_, _, _, _, hr⟩ := h; exact hr
  obtain ⟨a, cap, rfl, h, _⟩ := h
  rcases h with h | ⟨b, off, rfl, hc, hb, hcell⟩
  · exact absurd h hne
  obtain ⟨i0, hi0, hz0, hz1, hz2⟩ := info_parts info3
  have HC : Hid (∀ i, i < xs.length → w.cell? ⟨b, off + i, none⟩ = some (.int .i64 (nth xs i))) := hcell
  clear hcell
  go_enter Tryz.func102, Tryz.ntmps102
  go_wp2_with (at_builtin; go_must (refine list_ints (by rfl) _ _ 32 (by rfl) i0 Tryz.underlying32 hi0 hz0 hz1 hz2 w.heap.size w _ _ [] xs b off _ cap rfl (by rfl) (OwnI.made w _ (Nat.le_refl _)) (bel_new w _) (by simp) (by rfl) (fun i hi => ((bel_new w _).cell (p := ⟨b, off + i, none⟩) hb).trans (HC.out i hi)) (by simp; omega) ?_; intro v1 w1 o1 b1 _ _ hn1))
  rw [List.nil_append] at o1
  obtain ⟨g, cp, rfl⟩ := OwnI.some o1 (fun e => by have := (hn1.1 e).1; cases this)
  clear hn1
  obtain ⟨k1, _, hBg⟩ := BlkI.of o1
  clear o1
  have hpos : 0 < xs.length := by cases xs with | nil => exact absurd rfl hne | cons x l => simp
  go_wp2_with fail
  go_loopw [4] (fun i wr => ∃ (m : Nat) (ys : List Int), 1 ≤ m ∧ m ≤ xs.length ∧ i = .int .i64 m ∧ Hid (BlkI wr g cp ys ∧ ys.Perm xs ∧ Asc m ys ∧ Below w.heap.size w wr)) (fun i _ => xs.length - (intOf i).toNat)
  case atStart => exact ⟨1, xs, by omega, by omega, rfl, ⟨k1, .refl _, fun p q h1 h2 => by omega, b1⟩⟩
  case round =>
    clear k1 b1
    obtain ⟨m, ys, hm1, hm2, rfl, HY⟩ := hrel
    by_cases hlt : m < xs.length
    · go_wp2_with fail
      go_loopw [5] (fun i wr => ∃ (k : Nat) (ys : List Int), k ≤ m ∧ i = .int .i64 k ∧ Hid (BlkI wr g cp ys ∧ ys.Perm xs ∧ Ins k (m + 1) ys ∧ Below w.heap.size w wr)) (fun i _ => (intOf i).toNat)
      case atStart => exact ⟨m, ys, by omega, rfl, ⟨HY.out.1, HY.out.2.1, HY.out.2.2.1.ins, HY.out.2.2.2⟩⟩
      case round =>
        clear HY
        clear ys
        obtain ⟨k, ys, hk, rfl, HY⟩ := hrel
        have HL : Hid (ys.length = xs.length) := HY.out.2.1.length_eq
        by_cases hk0 : k = 0
        · subst hk0
          go_wp2_with fail
          go_quiet (fail)
          go_wp2_with fail
          exact ⟨⟨m + 1, ys, by omega, by omega, by go_num, ⟨HY.out.1.kept rfl, HY.out.2.1, HY.out.2.2.1.done (.inl rfl), below_n HY.out.2.2.2⟩⟩, by simp [intOf]; omega⟩
        · obtain ⟨j, rfl⟩ : ∃ j, k = j + 1 := ⟨k - 1, by omega⟩
          have c0 := (HY.out.1.cell (i := j) (by have := HL.out; omega)).1
          have c1 := (HY.out.1.cell (i := j + 1) (by have := HL.out; omega)).1
          have f0 := (HY.out.1.cell (i := j) (by have := HL.out; omega)).2
          have f1 := (HY.out.1.cell (i := j + 1) (by have := HL.out; omega)).2
          have q1 : (0 : Int) < (j : Int) + 1 := by omega
          have q2 : (j : Int) + 1 < (xs.length : Int) := by omega
          have q3 : (j : Int) < (xs.length : Int) := by omega
          by_cases hgt : nth ys (j + 1) < nth ys j
          · go_wp2_with fail
            go_quiet (fail)
            go_wp2_with fail
            exact ⟨⟨j, sw j ys, by omega, rfl, ⟨(HY.out.1.kept (w' := wr.drewN nq) rfl).swap (by have := HL.out; omega), (sw_perm j ys).trans HY.out.2.1, HY.out.2.2.1.step (by omega) (by have := HL.out; omega) hgt, below_set2 (below_n HY.out.2.2.2) hBg _ _⟩⟩, by simp [intOf]⟩
          · go_wp2_with fail
            go_quiet (fail)
            go_wp2_with fail
            exact ⟨⟨m + 1, ys, by omega, by omega, by go_num, ⟨HY.out.1.kept rfl, HY.out.2.1, HY.out.2.2.1.done (.inr (by simpa using hgt)), below_n HY.out.2.2.2⟩⟩, by simp [intOf]; omega⟩
    · obtain rfl : m = xs.length := by omega
      go_wp2_with fail
      go_ret
      have hl := HY.out.2.1.length_eq
      exact ⟨g, cp, ys, rfl, HY.out.1, hl, HY.out.2.1, by rw [hl]; exact HY.out.2.2.1, hBg, HY.out.2.2.2⟩
end Go.Proofs.YtkfiahemgdppfaaGreatDoor.So

/- One integer more in a list of the call's own. -/
namespace Go.Proofs.YtkfiahemgdppfaaGreatDoor.So
open Go.RowKit Go.Proofs.YtkfiahemgdppfaaGreatDoor.Sl Go.Proofs.YtkfiahemgdppfaaGreatDoor.Is

theorem list_int1 {P : Program} {ops : Array Oper} {rest : List Oper} {o : Oper} {a : Act} {Q : Exit → Act → World → Prop} (hgd : o.guard = none) (s x : Operand) (t : TypeId)
    (ho : o.op = .call { callee := .builtin .append, args := #[s, x], argTypes := #[t, t] }) (i : TypeInfo) (ht : P.underlying t = some (.slice 3)) (hi : P.info? 3 = some i) (hz : i.zero = some (.int .i64 0))
    (hsize : i.size = 1) (hby : i.bytes = 8) (B : Nat) (w0 W : World) (v : Value) (zs : List Int) (z : Int) (hs : a.eval s = v) (hown : OwnI W B v zs) (hg0 : Below B w0 W) (hB : B ≤ W.heap.size)
    (hx : a.eval x = .slice (some ⟨W.heap.size, 0, none⟩) 1 1) (hlen : zs.length + 1 ≤ 1000000)
    (h : ∀ v' w', OwnI w' B v' (zs ++ [z]) → Below B w0 w' → v' ≠ .slice none 0 0 → wpList P ops Q rest (a.put o.dst v') w') : wpList P ops Q (o :: rest) a (W.alloc (.cells #[.int .i64 z] 3)) := by
  refine list_ints hgd s x t ho i ht hi hz hsize hby B w0 _ v zs [z] W.heap.size 0 1 1 rfl hs ?_ (hg0.alloc hB _) (by simp; omega) hx ?_ (by simpa using hlen) ?_
  · unfold OwnI at hown ⊢; exact hown.alloc _
  · intro j hj
    obtain rfl : j = 0 := by simpa using hj
    rw [Joins.cell_of_block (heap_alloc_new W _)]
    rfl
  · intro v' w' h1 h2 _ _ h4
    exact h v' w' h1 h2 (fun e => by have := (h4.1 e).2; omega)
theorem OwnI.below {w w' : World} {B : Nat} {v : Value} {ts : List Int} (h : OwnI w B v ts) (hb : Below w.heap.size w w') : OwnI w' B v ts := by
  obtain ⟨hl, h⟩ := h
  refine ⟨hl, ?_⟩
  rcases h with h | ⟨g, cap, cur, hv, hB, hgb, h⟩
  · exact .inl h
  · exact .inr ⟨g, cap, cur, hv, hB, (hb.block g (Array.getElem?_eq_some_iff.1 hgb).1).trans hgb, h⟩
end Go.Proofs.YtkfiahemgdppfaaGreatDoor.So

/- Insertion as the values come: impl.insertSorted. -/
namespace Go.Proofs.YtkfiahemgdppfaaGreatDoor.Iz
open Go.RowKit Go.Proofs.YtkfiahemgdppfaaGreatDoor.Sl Go.Proofs.YtkfiahemgdppfaaGreatDoor.Is Go.Proofs.YtkfiahemgdppfaaGreatDoor.So

theorem swap2 {w : World} {g cap k : Nat} {ys : List Int} (h : BlkI w g cap ys) (hk : k + 1 < ys.length) :
    BlkI ((w.setCell ⟨g, k, none⟩ (.int .i64 (nth ys (k + 1)))).setCell ⟨g, k + 1, none⟩ (.int .i64 (nth ys k))) g cap (sw k ys) := by
  obtain ⟨cur, h1, h2, h3, h4, h5⟩ := h
  refine ⟨(cur.setIfInBounds k (.int .i64 (nth ys (k + 1)))).setIfInBounds (k + 1) (.int .i64 (nth ys k)), Joins.block_setCell (i := k + 1) (Joins.block_setCell (i := k) h1 _) _, by simpa using h2, by rw [sw_length]; exact h3, h4, fun i hi => ?_⟩
  rw [sw_length] at hi
  rw [Array.getElem?_setIfInBounds, sw_nth k ys i hk]
  by_cases e : k + 1 = i
  · rw [if_pos e, if_pos (by simp; omega), if_neg (by omega), if_pos e.symm]
  · rw [if_neg e, Array.getElem?_setIfInBounds]
    by_cases e2 : k = i
    · rw [if_pos e2, if_pos (by omega), if_pos e2.symm]
    · rw [if_neg e2, if_neg (fun x => e2 x.symm), if_neg (fun x => e x.symm)]
      exact h5 i hi
theorem val_eq {k : IntKind} {a b : Int} (h : a = b) : Value.int k a = .int k b := by rw [h]
set_option maxRecDepth 100000 in
set_option maxHeartbeats 1600000 in
theorem insertSorted_any (v : Value) (ys : List Int) (x : Int) (B : Nat) (w : World) (h : OwnI w B v ys) (hs : Asc ys.length ys) (hB : B ≤ w.heap.size) (hl : ys.length ≤ 1000) :
    Calls Tryz.prog 130 #[v, .int .i64 x] w fun e w' => ∃ v' zs, e = .returned v' ∧ OwnI w' B v' zs ∧ zs.Perm (ys ++ [x]) ∧ Asc zs.length zs ∧ v' ≠ .slice none 0 0 ∧ Below B w w' := by
  obtain ⟨i0, hi0, hz0, hz1, hz2⟩ := info_parts info3
  have HO : Hid (OwnI w B v ys ∧ Asc ys.length ys) := ⟨h, hs⟩
  clear h hs
  go_enter Tryz.func130, Tryz.ntmps130
  go_wp2_with (at_builtin; go_must (refine list_int1 (by rfl) _ _ 32 (by rfl) i0 Tryz.underlying32 hi0 hz0 hz1 hz2 B w w _ ys x (by rfl) HO.out.1 (Below.refl _ _) hB (by rfl) (by omega) ?_; intro v1 w1 o1 b1 hne))
  obtain ⟨g, cp, rfl⟩ := OwnI.some o1 hne
  obtain ⟨k1, _, hBg⟩ := BlkI.of o1
  have HL : Hid ((ys ++ [x]).length = ys.length + 1) := by show _ = _; simp
  have HA : Hid (Ins ys.length (ys.length + 1) (ys ++ [x])) := by
    intro p q h1 h2 h3
    have := HO.out.2 p q h1 (by omega)
    unfold nth at this ⊢
    rw [List.getD_eq_getElem?_getD, List.getD_eq_getElem?_getD, List.getElem?_append_left (by omega), List.getElem?_append_left (by omega)]
    rwa [List.getD_eq_getElem?_getD, List.getD_eq_getElem?_getD] at this
  have HK1 : Hid (BlkI w1 g cp (ys ++ [x]) ∧ Below B w w1) := ⟨k1, b1⟩
  clear o1 k1 b1 hne HO
  obtain ⟨n, HN⟩ : ∃ n, Hid (n = ys.length + 1) := ⟨_, rfl⟩
  have hn : n ≤ 1001 ∧ 0 < n := by rw [HN.out]; omega
  rw [show ys.length = n - 1 by rw [HN.out]; omega, Nat.sub_add_cancel hn.2] at HA
  rw [← HN.out] at HL
  rw [HL.out]
  obtain ⟨zs, HZ⟩ : ∃ zs, Hid (ys ++ [x] = zs) := ⟨_, rfl⟩
  rw [HZ.out] at HL HA HK1
  clear hl
  go_wp2_with fail
  go_loopw [5] (fun i wr => ∃ (k : Nat) (us : List Int), k < n ∧ i = .int .i64 k ∧ Hid (BlkI wr g cp us ∧ us.Perm zs ∧ Ins k n us ∧ Below B w wr)) (fun i _ => (intOf i).toNat)
  case atStart => exact ⟨n - 1, zs, by omega, val_eq (by omega), ⟨HK1.out.1, .refl _, HA.out, HK1.out.2⟩⟩
  case round =>
    clear HK1 HA
    obtain ⟨k, us, hk, rfl, HY⟩ := hrel
    have HU : Hid (us.length = n) := by show _ = _; rw [HY.out.2.1.length_eq, HL.out]
    by_cases hk0 : k = 0
    · subst hk0
      go_wp2_with fail
      go_quiet (fail)
      go_wp2_with fail
      go_ret
      refine ⟨_, us, rfl, ?_, by rw [HZ.out]; exact HY.out.2.1, by rw [HU.out]; exact HY.out.2.2.1.done (.inl rfl), by simp, below_n HY.out.2.2.2⟩
      have := BlkI.own (B := B) (HY.out.1.kept (w' := wr.drewN nq) rfl) hBg
      rwa [HU.out] at this
    · obtain ⟨j, rfl⟩ : ∃ j, k = j + 1 := ⟨k - 1, by omega⟩
      have c0 := (HY.out.1.cell (i := j) (by have := HU.out; omega)).1
      have c1 := (HY.out.1.cell (i := j + 1) (by have := HU.out; omega)).1
      have f0 := (HY.out.1.cell (i := j) (by have := HU.out; omega)).2
      have f1 := (HY.out.1.cell (i := j + 1) (by have := HU.out; omega)).2
      have q1 : (0 : Int) < (j : Int) + 1 := by omega
      have q2 : (j : Int) + 1 < (n : Int) := by omega
      have q3 : (j : Int) < (n : Int) := by omega
      have q4 : (0 : Int) ≤ (j : Int) + 1 := by omega
      have q5 : (0 : Int) ≤ (j : Int) := by omega
      have q6 : IntKind.i64.wrap (j : Int) = j := by rw [IntKind.wrap_i64]; omega
      by_cases hgt : nth us (j + 1) < nth us j
      · go_wp2_with fail
        go_quiet (fail)
        go_wp2_with fail
        have HY2 : Hid (BlkI (wr.drewN nq) g cp us ∧ Below B w (wr.drewN nq)) := ⟨HY.out.1.kept rfl, below_n HY.out.2.2.2⟩
        have d0 : (wr.drewN nq).cell? ⟨g, j, none⟩ = some (.int .i64 (nth us j)) := c0
        have d1 : (wr.drewN nq).cell? ⟨g, j + 1, none⟩ = some (.int .i64 (nth us (j + 1))) := c1
        have g0 : (wr.drewN nq).frozen? ⟨g, j, none⟩ = false := f0
        have g1 : (wr.drewN nq).frozen? ⟨g, j + 1, none⟩ = false := f1
        generalize wr.drewN nq = wd at HY2 d0 d1 g0 g1 ⊢
        clear c0 c1 f0 f1
        go_region_law (fail)
        all_goals
          go_wp2_with fail
          exact ⟨⟨j, sw j us, by omega, rfl, ⟨(swap2 HY2.out.1 (by have := HU.out; omega)).kept rfl, (sw_perm j us).trans HY.out.2.1, HY.out.2.2.1.step (by omega) (by have := HU.out; omega) hgt, (below_set2 HY2.out.2 hBg _ _).drew⟩⟩, by simp [intOf]⟩
      · go_wp2_with fail
        go_quiet (fail)
        go_wp2_with fail
        go_ret
        refine ⟨_, us, rfl, ?_, by rw [HZ.out]; exact HY.out.2.1, by rw [HU.out]; exact HY.out.2.2.1.done (.inr (by simpa using hgt)), by simp, below_n HY.out.2.2.2⟩
        have := BlkI.own (B := B) (HY.out.1.kept (w' := wr.drewN nq) rfl) hBg
        rwa [HU.out] at this
end Go.Proofs.YtkfiahemgdppfaaGreatDoor.Iz
