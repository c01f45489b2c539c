/- Locks in a slice of one's own; what stands behind l05Own's first statement. -/
import Derived.Test.YtlgfeohoebmbcaaGreatOb5
import Derived.Test.YtlgfeohoebmbcaaGreatOl
import Derived.Test.YtlgfeohoebmbcaaGreatLf
import Derived.Test.YtlgfeohoebmbcaaGreatTr
import Derived.Test.YtlgfeohoebmbcaaGreatTq
import Derived.Sort.Walk0
namespace Go.Proofs.YtlgfeohoebmbcaaGreat.Lo
open Go.RowKit Go.Proofs.YtlgfeohoebmbcaaGreat.Sl Go.Proofs.YtlgfeohoebmbcaaGreat.By Go.Proofs.YtlgfeohoebmbcaaGreat.Ap Go.Proofs.YtlgfeohoebmbcaaGreat.Tb Go.Proofs.YtlgfeohoebmbcaaGreat.Tw Go.Proofs.YtlgfeohoebmbcaaGreat.Mw Go.Proofs.YtlgfeohoebmbcaaGreat.Wa Go.Proofs.YtlgfeohoebmbcaaGreat.Bk Go.Proofs.YtlgfeohoebmbcaaGreat.Tp
open Go.Proofs.YtlgfeohoebmbcaaGreat.Tx (blk_cell blk_set blk_far blk_new bel_new)

theorem belA {w1 W : World} (h : Below w1.heap.size w1 W) (o : Obj) : Below w1.heap.size w1 (W.alloc o) := h.alloc h.size o
theorem belS {w1 W : World} (h : Below w1.heap.size w1 W) (x i : Nat) (v : Value) (hx : w1.heap.size ≤ x) : Below w1.heap.size w1 (W.setCell ⟨x, i, none⟩ v) := Below.setCell h (p := ⟨x, i, none⟩) hx v
theorem runS (P : Program) (t ty : TypeId) (i : TypeInfo) (ht : P.underlying t = some (.slice 113)) (hi : P.info? 113 = some i) (hz : i.zero = some (.agg #[.int .i64 0, .int .i64 0, .int .i64 0, .int .i64 0, .int .i64 0, .int .i64 0]))
    (hsize : i.size = 6) (hby : i.bytes = 48) (B : Nat) (W : World) (v u : Value) (zs xs : List Sn) (hown : OwnS W B v zs) (hB : B ≤ W.heap.size) (hu : RowS W u xs) (hlen : zs.length + xs.length ≤ 1000000) :
    ∃ v' w', (Builtin.append_ #[t, t] ty #[v, u]).run P W = .ok v' w' ∧ OwnS w' B v' (zs ++ xs) ∧ W.grownBy w' v.ownBlock := by
  have hu' := hu
  obtain ⟨ad, cap, rfl, hc⟩ := hu
  have hown2 := hown
  unfold OwnS at hown2
  cases ad with
  | none =>
    obtain rfl : xs = [] := by
      rcases hc with h | ⟨_, _, h, _⟩
      · exact h
      · cases h
    have hr : (Builtin.append_ #[t, t] ty #[v, .slice none 0 cap]).run P W = .ok v W := by
      rcases hown2.2 with ⟨rfl, _⟩ | ⟨g, c, cur, rfl, _, _, hn, _⟩
      · exact run_append_nothing W t t ty _ i ht hi none 0 0 (Nat.le_refl _) _ (Src.ofNil W ht cap)
      · exact run_append_nothing W t t ty _ i ht hi _ _ _ hn _ (Src.ofNil W ht cap)
    exact ⟨v, W, hr, by simpa using hown, ⟨rfl, rfl, rfl, Nat.le_refl _, fun _ _ _ => rfl⟩⟩
  | some ad =>
    obtain ⟨v', w', hr, h2, h3, _, _⟩ := run_append_own_at (P := P) W B t ty 113 i _ 6 48 ht hi hz hsize hby rfl (by decide) v zs.length _ hown2 ad xs.length cap (xs.flatMap clS) (lenS xs) (srcS hu') (memS xs) (by unfold maxLen; omega) (by omega) hB
    exact ⟨v', w', hr, by unfold OwnS; rw [List.flatMap_append, List.length_append]; exact h2, h3⟩
theorem drew_size (W : World) : W.drew.heap.size = W.heap.size := rfl
theorem nest1 (W : World) (a : Obj) : (W.alloc a).heap[W.heap.size]? = some a := heap_alloc_new _ _
theorem nest2 (W : World) (a b : Obj) : ((W.alloc a).alloc b).heap[W.heap.size]? = some a ∧ ((W.alloc a).alloc b).heap[W.heap.size + 1]? = some b :=
  ⟨(Below.heap_alloc _ _ _ (by rw [size_new]; omega)).trans (nest1 _ _), by have := nest1 (W.alloc a) b; rw [size_new] at this; exact this⟩
theorem nest3 (W : World) (a b c : Obj) : (((W.alloc a).alloc b).alloc c).heap[W.heap.size]? = some a ∧ (((W.alloc a).alloc b).alloc c).heap[W.heap.size + 1]? = some b ∧ (((W.alloc a).alloc b).alloc c).heap[W.heap.size + 1 + 1]? = some c :=
  ⟨(Below.heap_alloc _ _ _ (by rw [size_new, size_new]; omega)).trans (nest2 _ _ _).1, (Below.heap_alloc _ _ _ (by rw [size_new, size_new]; omega)).trans (nest2 _ _ _).2, by have := nest1 ((W.alloc a).alloc b) c; rw [size_new, size_new] at this; exact this⟩
theorem step_appS {P : Program} {ops : Array Oper} {o : Oper} {a : Act} {K : Act → World → Prop} {Q : Exit → Act → World → Prop} {E : Prop} {i : TypeInfo} (hgd : o.guard = none) (s z : Operand) (t : TypeId) (ho : o.op = .call { callee := .builtin .append, args := #[s, z], argTypes := #[t, t] }) (ht : P.underlying t = some (.slice 113)) (hi : P.info? 113 = some i) (hz : i.zero = some (.agg #[.int .i64 0, .int .i64 0, .int .i64 0, .int .i64 0, .int .i64 0, .int .i64 0]))
    (hsize : i.size = 6) (hby : i.bytes = 48) (w1 W : World) (u : Value) (xs : List Sn) (g : Nat) (hs : a.eval s = .slice (some ⟨g, 0, none⟩) 0 0) (hx : a.eval z = u) (hg : W.heap[g]? = some (.cells #[] 113 (0, 0))) (hge : w1.heap.size ≤ g) (hb : Below w1.heap.size w1 W) (hu : ∀ W, Below w1.heap.size w1 W → RowS W u xs) (hlen : xs.length ≤ 1000)
    (h : ∀ v' w', OwnS w' w1.heap.size v' xs → Below w1.heap.size w1 w' → (∀ k o', W.heap[k]? = some o' → k ≠ g → w'.heap[k]? = some o') → K (a.put o.dst v') w') : if Region.wanted o (yielded ops a.tmps) = true then Oper.wp P o a W K Q else E := by
  have hw : Region.wanted o (yielded ops a.tmps) = true := by simp [Region.wanted, hgd]
  rw [if_pos hw]
  have hown : OwnS W w1.heap.size (.slice (some ⟨g, 0, none⟩) 0 0) [] := ⟨rfl, .inr ⟨g, 0, #[], rfl, hge, hg, Nat.le_refl _, by simp, by simp, by simp⟩⟩
  obtain ⟨v', w', hr, h2, h3⟩ := runS P t o.type i ht hi hz hsize hby w1.heap.size W _ u [] xs hown hb.size (hu W hb) (by simp; omega)
  exact wp_app ho hs hx hr (h v' w' (by simpa using h2) (hb.grown h3 hb.size (fun k hk => by cases hk; exact hge)) (fun k o' hk hne => (h3.block k (Array.getElem?_eq_some_iff.1 hk).1 (fun e => hne (by injection e))).trans hk))
/-- What stands behind the first statement. -/
def Fin (w1 : World) (tm nx : Int) (ss : List Sn) (px : Value) (wx : World) : Prop := ∃ x gA a5 k5, px = .pointer (some ⟨x, 0, none⟩) ∧ wx.heap[x]? = some (.cells #[.int .i64 tm, .int .i64 nx, .slice (some ⟨gA, 0, none⟩) 0 0, .slice a5 ss.length k5] 30 (0, 0)) ∧ wx.heap[gA]? = some (.cells #[] 95 (0, 0)) ∧ OwnS wx w1.heap.size (.slice a5 ss.length k5) ss ∧ Below w1.heap.size w1 wx ∧ w1.heap.size ≤ x ∧ w1.heap.size ≤ gA
theorem set4 {W : World} {x : Nat} {z0 z1 z2 z3 : Value} (hX : W.heap[x]? = some (.cells #[z0, z1, z2, z3] 30 (0, 0))) (a b c d : Value) : ((((W.setCell ⟨x, 0, none⟩ a).setCell ⟨x, 1, none⟩ b).setCell ⟨x, 2, none⟩ c).setCell ⟨x, 3, none⟩ d).heap[x]? = some (.cells #[a, b, c, d] 30 (0, 0)) := blk_set (blk_set (blk_set (blk_set hX 0 a) 1 b) 2 c) 3 d
theorem far4 {W : World} {x k : Nat} (hk : k ≠ x) (a b c d : Value) : ((((W.setCell ⟨x, 0, none⟩ a).setCell ⟨x, 1, none⟩ b).setCell ⟨x, 2, none⟩ c).setCell ⟨x, 3, none⟩ d).heap[k]? = W.heap[k]? := (blk_far hk 3 d).trans ((blk_far hk 2 c).trans ((blk_far hk 1 b).trans (blk_far hk 0 a)))
theorem fin2 {w1 W : World} {tm nx : Int} {ss : List Sn} {x gA : Nat} {a5 : Option Addr} {k5 : Nat} {z0 z1 z2 z3 : Value} (hX : W.heap[x]? = some (.cells #[z0, z1, z2, z3] 30 (0, 0))) (hA : W.heap[gA]? = some (.cells #[] 95 (0, 0))) (o5 : OwnS W w1.heap.size (.slice a5 ss.length k5) ss) (b5 : Below w1.heap.size w1 W) (hx : w1.heap.size ≤ x) (hg : w1.heap.size ≤ gA) :
    Fin w1 tm nx ss (.pointer (some ⟨x, 0, none⟩)) ((((W.setCell ⟨x, 0, none⟩ (.int .i64 tm)).setCell ⟨x, 1, none⟩ (.int .i64 nx)).setCell ⟨x, 2, none⟩ (.slice (some ⟨gA, 0, none⟩) 0 0)).setCell ⟨x, 3, none⟩ (.slice a5 ss.length k5)) :=
  ⟨x, gA, a5, k5, rfl, set4 hX _ _ _ _, (far4 (kind_ne hA hX (by decide)) _ _ _ _).trans hA, o5.kept (fun g hg => by obtain ⟨cur, hc⟩ := own_block o5 hg; exact far4 (kind_ne hc hX (by decide)) _ _ _ _), belS (belS (belS (belS b5 _ _ _ hx) _ _ _ hx) _ _ _ hx) _ _ _ hx, hx, hg⟩
theorem fin1 {w1 W : World} {tm nx : Int} {ss : List Sn} {gA : Nat} {a5 : Option Addr} {k5 : Nat} (hA : W.heap[gA]? = some (.cells #[] 95 (0, 0))) (o5 : OwnS W w1.heap.size (.slice a5 ss.length k5) ss) (b5 : Below w1.heap.size w1 W) (hg : w1.heap.size ≤ gA) :
    Fin w1 tm nx ss (.pointer (some ⟨W.heap.size, 0, none⟩)) (W.alloc (.cells #[.int .i64 tm, .int .i64 nx, .slice (some ⟨gA, 0, none⟩) 0 0, .slice a5 ss.length k5] 30)) :=
  ⟨W.heap.size, gA, a5, k5, rfl, blk_new _ _ _, (Below.heap_alloc _ _ _ (Array.getElem?_eq_some_iff.1 hA).1).trans hA, o5.alloc _, belA b5 _, b5.size, hg⟩
theorem fin3 {w1 W : World} {tm nx : Int} {ss : List Sn} {a5 : Option Addr} {k5 : Nat} (o5 : OwnS W w1.heap.size (.slice a5 ss.length k5) ss) (b5 : Below w1.heap.size w1 W) :
    Fin w1 tm nx ss (.pointer (some ⟨W.heap.size + 1, 0, none⟩)) ((W.alloc (.cells #[] 95)).alloc (.cells #[.int .i64 tm, .int .i64 nx, .slice (some ⟨W.heap.size, 0, none⟩) 0 0, .slice a5 ss.length k5] 30)) :=
  ⟨W.heap.size + 1, W.heap.size, a5, k5, rfl, (nest2 _ _ _).2, (nest2 _ _ _).1, (o5.alloc _).alloc _, belA (belA b5 _) _, Nat.le_succ_of_le b5.size, b5.size⟩
theorem fin4 {w1 W : World} {tm nx : Int} {ss : List Sn} {a5 : Option Addr} {k5 : Nat} (o5 : OwnS W w1.heap.size (.slice a5 ss.length k5) ss) (b5 : Below w1.heap.size w1 W) :
    Fin w1 tm nx ss (.pointer (some ⟨W.heap.size, 0, none⟩)) ((W.alloc (.cells #[.int .i64 tm, .int .i64 nx, .slice (some ⟨W.heap.size + 1, 0, none⟩) 0 0, .slice a5 ss.length k5] 30)).alloc (.cells #[] 95)) :=
  ⟨W.heap.size, W.heap.size + 1, a5, k5, rfl, (nest2 _ _ _).1, (nest2 _ _ _).2, (o5.alloc _).alloc _, belA (belA b5 _) _, b5.size, Nat.le_succ_of_le b5.size⟩
theorem fin5 {w1 W : World} {tm nx : Int} {ss : List Sn} {x : Nat} {a5 : Option Addr} {k5 : Nat} {z0 z1 z2 z3 : Value} (hX : W.heap[x]? = some (.cells #[z0, z1, z2, z3] 30 (0, 0))) (o5 : OwnS W w1.heap.size (.slice a5 ss.length k5) ss) (b5 : Below w1.heap.size w1 W) (hx : w1.heap.size ≤ x) :
    Fin w1 tm nx ss (.pointer (some ⟨x, 0, none⟩)) (((((W.alloc (.cells #[] 95)).setCell ⟨x, 0, none⟩ (.int .i64 tm)).setCell ⟨x, 1, none⟩ (.int .i64 nx)).setCell ⟨x, 2, none⟩ (.slice (some ⟨W.heap.size, 0, none⟩) 0 0)).setCell ⟨x, 3, none⟩ (.slice a5 ss.length k5)) :=
  fin2 ((Below.heap_alloc _ _ _ (Array.getElem?_eq_some_iff.1 hX).1).trans hX) (blk_new _ _ _) (o5.alloc _) (belA b5 _) hx b5.size
/-- No two of the locks have their waiters in one block. -/
def Apart (ps : List LkA) : Prop := ∀ (i j : Nat) (p q : LkA), ps[i]? = some p → ps[j]? = some q → i ≠ j → ∀ g, (uV p).ownBlock = some g → (uV q).ownBlock ≠ some g
theorem Apart.set {ps : List LkA} (h : Apart ps) {k : Nat} {p q : LkA} (hk : ps[k]? = some p) (hq : (uV q).ownBlock = (uV p).ownBlock) : Apart (ps.set k q) := by
  intro i j a b ha hb hij g hg
  have hlt : k < ps.length := (List.getElem?_eq_some_iff.1 hk).1
  rw [List.getElem?_set] at ha hb
  simp only [hlt, if_true] at ha hb
  split at ha <;> split at hb
  · omega
  · rename_i e1 e2
    subst e1
    cases ha
    rw [hq] at hg
    exact h k j p b hk hb hij g hg
  · rename_i e1 e2
    subst e2
    cases hb
    rw [hq]
    exact h i k a p ha hk hij g hg
  · exact h i j a b ha hb hij g hg
theorem Apart.fresh {ps : List LkA} (h : Apart ps) {k : Nat} {q : LkA} {G : Nat} (hq : ∀ g, (uV q).ownBlock = some g → G ≤ g) (hp : ∀ p ∈ ps, ∀ g, (uV p).ownBlock = some g → g < G) : Apart (ps.set k q) := by
  intro i j a c ha hc hij g hg hg2
  rw [List.getElem?_set] at ha hc
  split at ha <;> split at hc
  · omega
  · split at ha
    · cases ha
      have := hq g hg
      have := hp c (List.mem_of_getElem? hc) g hg2
      omega
    · cases ha
  · split at hc
    · cases hc
      have := hq g hg2
      have := hp a (List.mem_of_getElem? ha) g hg
      omega
    · cases hc
  · exact h i j a c ha hc hij g hg hg2
theorem Apart.push {ps : List LkA} (h : Apart ps) {q : LkA} {G : Nat} (hq : ∀ g, (uV q).ownBlock = some g → G ≤ g) (hp : ∀ p ∈ ps, ∀ g, (uV p).ownBlock = some g → g < G) : Apart (ps ++ [q]) := by
  intro i j a c ha hc hij g hg hg2
  have key : ∀ (i : Nat) (a : LkA), (ps ++ [q])[i]? = some a → ps[i]? = some a ∨ (i = ps.length ∧ a = q) := fun i a ha => by
    by_cases hi : i < ps.length
    · rw [List.getElem?_append_left hi] at ha; exact .inl ha
    · rw [List.getElem?_append_right (by omega)] at ha
      have := (List.getElem?_eq_some_iff.1 ha).1
      simp at this
      obtain rfl : i = ps.length := by omega
      simp at ha
      exact .inr ⟨rfl, ha.symm⟩
  rcases key i a ha with ha' | ⟨ei, ea⟩
  · rcases key j c hc with hc' | ⟨ej, ec⟩
    · exact h i j a c ha' hc' hij g hg hg2
    · rw [ec] at hg2
      have := hq g hg2
      have := hp a (List.mem_of_getElem? ha') g hg
      omega
  · rw [ea] at hg
    rcases key j c hc with hc' | ⟨ej, ec⟩
    · have := hq g hg
      have := hp c (List.mem_of_getElem? hc') g hg2
      omega
    · omega
/-- While l05Own goes: its table's box at x, its locks, its Seens. -/
structure Iv (w1 wr : World) (tm nx : Int) (x : Nat) (v2 v3 : Value) (ps : List LkA) (ss : List Sn) : Prop where
  hx : wr.heap[x]? = some (.cells #[.int .i64 tm, .int .i64 nx, v2, v3] 30 (0, 0))
  ol : OwnL wr w1.heap.size v2 ps
  os : OwnS wr w1.heap.size v3 ss
  ow : ∀ p ∈ ps, OwnW wr w1.heap.size (uV p) p.1.ws
  bel : Below w1.heap.size w1 wr
  le : w1.heap.size ≤ x
  ap : Apart ps
theorem Fin.iv {w1 wx : World} {tm nx : Int} {ss : List Sn} {px : Value} (h : Fin w1 tm nx ss px wx) : ∃ x a2 c2 a3 c3, px = .pointer (some ⟨x, 0, none⟩) ∧ Iv w1 wx tm nx x (.slice a2 0 c2) (.slice a3 ss.length c3) [] ss := by
  obtain ⟨x, gA, a5, k5, rfl, h1, h2, h3, h4, h5, h6⟩ := h
  exact ⟨x, _, 0, a5, k5, rfl, h1, ⟨rfl, .inr ⟨gA, 0, #[], rfl, h6, h2, Nat.le_refl _, by simp, by simp, by simp⟩⟩, h3, fun p hp => (by cases hp), h4, h5, fun i j p q h => by simp at h⟩
theorem Iv.up {w1 wr w' : World} {tm nx : Int} {x : Nat} {v2 v3 : Value} {ps : List LkA} {ss : List Sn} (h : Iv w1 wr tm nx x v2 v3 ps ss) (hb : Below wr.heap.size wr w') : Iv w1 w' tm nx x v2 v3 ps ss :=
  ⟨(hb.block x (Array.getElem?_eq_some_iff.1 h.hx).1).trans h.hx, h.ol.below hb, h.os.below hb, fun p hp => (h.ow p hp).below hb, h.bel.trans (hb.mono h.bel.size), h.le, h.ap⟩
/-- The box of a lock is written. -/
theorem Iv.far {w1 wr : World} {tm nx : Int} {x : Nat} {v2 v3 : Value} {ps : List LkA} {ss : List Sn} (h : Iv w1 wr tm nx x v2 v3 ps ss) (y i : Nat) (z : Value) (hy : w1.heap.size ≤ y) (hx : x ≠ y) (hl : v2.ownBlock ≠ some y) (hs : v3.ownBlock ≠ some y) (hw : ∀ p ∈ ps, (uV p).ownBlock ≠ some y) : Iv w1 (wr.setCell ⟨y, i, none⟩ z) tm nx x v2 v3 ps ss :=
  ⟨(blk_far hx i z).trans h.hx, h.ol.kept (fun g hg => blk_far (fun e => hl (by rw [hg, e])) i z), h.os.kept (fun g hg => blk_far (fun e => hs (by rw [hg, e])) i z), fun p hp => (h.ow p hp).kept (fun g hg => blk_far (fun e => hw p hp (by rw [hg, e])) i z), belS h.bel y i z hy, h.le, h.ap⟩
theorem Iv.kx {w1 wr w' : World} {tm nx : Int} {x : Nat} {v2 v3 : Value} {ps : List LkA} {ss : List Sn} (h : Iv w1 wr tm nx x v2 v3 ps ss) (hk : ∀ k, k < wr.heap.size → some k ≠ v2.ownBlock → w'.heap[k]? = wr.heap[k]?) : w'.heap[x]? = some (.cells #[.int .i64 tm, .int .i64 nx, v2, v3] 30 (0, 0)) :=
  (hk x (Array.getElem?_eq_some_iff.1 h.hx).1 (fun e => by obtain ⟨cur, hc⟩ := own_block h.ol e.symm; exact kind_ne hc h.hx (by decide) rfl)).trans h.hx
/-- One lock more, and the box of the table is written. -/
theorem Iv.put {w1 wr w' : World} {tm nx : Int} {x : Nat} {v2 v3 v' : Value} {ps : List LkA} {ss : List Sn} (h : Iv w1 wr tm nx x v2 v3 ps ss) (p : LkA) (hp : OwnW wr w1.heap.size (uV p) p.1.ws) (ho : OwnL w' w1.heap.size v' (ps ++ [p])) (hb : Below w1.heap.size w1 w') (hk : ∀ k, k < wr.heap.size → some k ≠ v2.ownBlock → w'.heap[k]? = wr.heap[k]?) (ha : Apart (ps ++ [p])) :
    Iv w1 (w'.setCell ⟨x, 2, none⟩ v') tm nx x v' v3 (ps ++ [p]) ss := by
  have hxl := (Array.getElem?_eq_some_iff.1 h.hx).1
  have kx : w'.heap[x]? = some (.cells #[.int .i64 tm, .int .i64 nx, v2, v3] 30 (0, 0)) := (hk x hxl (fun e => by obtain ⟨cur, hc⟩ := own_block h.ol e.symm; exact kind_ne hc h.hx (by decide) rfl)).trans h.hx
  have ks : OwnS w' w1.heap.size v3 ss := h.os.kept (fun g hg => hk g (h.os.lt g hg).2 (fun e => by
    obtain ⟨c1, h1⟩ := own_block h.os hg
    obtain ⟨c2, h2⟩ := own_block h.ol e.symm
    exact kind_ne h1 h2 (by decide) rfl))
  have kw : ∀ (u : Value) (ws : List Wt), OwnW wr w1.heap.size u ws → OwnW w' w1.heap.size u ws := fun u ws hu => hu.kept (fun g hg => hk g (hu.lt g hg).2 (fun e => by
    obtain ⟨c1, h1⟩ := own_block hu hg
    obtain ⟨c2, h2⟩ := own_block h.ol e.symm
    exact kind_ne h1 h2 (by decide) rfl))
  have far : ∀ (u : Value) (ws : List Wt), OwnW w' w1.heap.size u ws → OwnW (w'.setCell ⟨x, 2, none⟩ v') w1.heap.size u ws := fun u ws hu => hu.kept (fun g hg => by
    obtain ⟨c1, h1⟩ := own_block hu hg
    exact blk_far (kind_ne h1 kx (by decide)) 2 v')
  refine ⟨blk_set kx 2 v', ho.kept (fun g hg => ?_), ks.kept (fun g hg => ?_), fun q hq => ?_, belS hb x 2 v' h.le, h.le, ha⟩
  · obtain ⟨c1, h1⟩ := own_block ho hg
    exact blk_far (kind_ne h1 kx (by decide)) 2 v'
  · obtain ⟨c1, h1⟩ := own_block ks hg
    exact blk_far (kind_ne h1 kx (by decide)) 2 v'
  · rcases List.mem_append.1 hq with hq | hq
    · exact far _ _ (kw _ _ (h.ow q hq))
    · simp at hq; subst hq; exact far _ _ (kw _ _ hp)
theorem Iv.done {w1 wr : World} {tm nx : Int} {x : Nat} {v2 v3 : Value} {ps : List LkA} {ss : List Sn} (h : Iv w1 wr tm nx x v2 v3 ps ss) (B r : Nat) (hB : B ≤ w1.heap.size) (hr : r < w1.heap.size) (a b c d : Value) :
    OwnL ((((wr.setCell ⟨r, 0, none⟩ a).setCell ⟨r, 1, none⟩ b).setCell ⟨r, 2, none⟩ c).setCell ⟨r, 3, none⟩ d) B v2 ps ∧ (∀ p ∈ ps, OwnW ((((wr.setCell ⟨r, 0, none⟩ a).setCell ⟨r, 1, none⟩ b).setCell ⟨r, 2, none⟩ c).setCell ⟨r, 3, none⟩ d) B (uV p) p.1.ws) ∧ OwnS ((((wr.setCell ⟨r, 0, none⟩ a).setCell ⟨r, 1, none⟩ b).setCell ⟨r, 2, none⟩ c).setCell ⟨r, 3, none⟩ d) B v3 ss :=
  ⟨(h.ol.kept (fun g hg => far4 (by have := (h.ol.lt g hg).1; omega) _ _ _ _)).mono hB, fun p hp => ((h.ow p hp).kept (fun g hg => far4 (by have := ((h.ow p hp).lt g hg).1; omega) _ _ _ _)).mono hB, (h.os.kept (fun g hg => far4 (by have := (h.os.lt g hg).1; omega) _ _ _ _)).mono hB⟩
theorem OwnL.slice' {w : World} {B n : Nat} {v : Value} {ms : List LkA} (h : OwnL w B v ms) (hn : ms.length = n) : ∃ a cap, v = .slice a n cap := by subst hn; exact h.slice
end Go.Proofs.YtlgfeohoebmbcaaGreat.Lo
