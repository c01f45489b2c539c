/- Texts put together: Tz, Rdt, NameParts. -/
import Derived.Test.YtakfniknkejgpaaDoorMt2
import Derived.Lib.SmallJoins
import Derived.Lib.ConvBytes
import Derived.Laws.MakeOwn
import Derived.Laws.NewBlocks
import Derived.Deep.QuietTactic
import Derived.BigQuiet
import Derived.Test.YtakfniknkejgpaaDoorRows
import Derived.WalkKit
import Derived.ProofKit
import Derived.Laws.RangeString
/- Blocks; texts in a slice: read, gathered. -/
namespace Go.Proofs.YtakfniknkejgpaaDoor.Tx
open Go.RowKit Go.Proofs.YtakfniknkejgpaaDoor.Sl Go.Proofs.YtakfniknkejgpaaDoor.By Go.Proofs.YtakfniknkejgpaaDoor.Ap

theorem val_eq {k : IntKind} {a b : Int} (h : a = b) : Value.int k a = .int k b := by rw [h]
theorem ret_str {a b : ByteArray} (h : a = b) : Ending.returned (.string a) = .returned (.string b) := by rw [h]
theorem size_new (w : World) (o : Obj) : (w.alloc o).heap.size = w.heap.size + 1 := by simp
theorem blk_cell {w : World} {b : Nat} {cs : Array Value} {t : TypeId} (h : w.heap[b]? = some (.cells cs t (0, 0))) (i : Nat) {x : Value} (hx : cs[i]? = some x) : w.cell? ⟨b, i, none⟩ = some x ∧ w.frozen? ⟨b, i, none⟩ = false := by
 refine ⟨(Joins.cell_of_block h i).trans hx, ?_⟩
 simp [World.frozen?, h]
theorem blk_set {w : World} {b : Nat} {cs : Array Value} {t : TypeId} (h : w.heap[b]? = some (.cells cs t (0, 0))) (i : Nat) (x : Value) : (w.setCell ⟨b, i, none⟩ x).heap[b]? = some (.cells (cs.setIfInBounds i x) t (0, 0)) := Joins.block_setCell (i := i) h x
theorem blk_far {w : World} {b k : Nat} (hk : k ≠ b) (i : Nat) (x : Value) : (w.setCell ⟨b, i, none⟩ x).heap[k]? = w.heap[k]? := Below.heap_setCell w ⟨b, i, none⟩ x k hk
theorem blk_new (w : World) (cs : Array Value) (t : TypeId) : (w.alloc (.cells cs t)).heap[w.heap.size]? = some (.cells cs t (0, 0)) := heap_alloc_new w _
theorem bel_new (w : World) (o : Obj) : Below w.heap.size w (w.alloc o) := (Below.refl _ _).alloc (Nat.le_refl _) _

def tnth (ts : List ByteArray) (i : Nat) : ByteArray := ts.getD i ⟨#[]⟩
def RowT (w : World) (v : Value) (ts : List ByteArray) : Prop :=
 ∃ a cap, v = .slice a ts.length cap ∧ (ts = [] ∨ ∃ b off, a = some ⟨b, off, none⟩ ∧ ts.length ≤ cap ∧ b < w.heap.size ∧ ∀ i, i < ts.length → w.cell? ⟨b, off + i, none⟩ = some (.string (tnth ts i)))
theorem RowT.below {w w' : World} {v : Value} {ts : List ByteArray} (h : RowT w v ts) (hb : Below w.heap.size w w') : RowT w' v ts := by
 obtain ⟨a, cap, rfl, h⟩ := h
 refine ⟨a, cap, rfl, ?_⟩
 rcases h with h | ⟨b, off, rfl, hc, hlt, h⟩
 ·exact .inl h
 ·exact .inr ⟨b, off, rfl, hc, Nat.lt_of_lt_of_le hlt hb.size, fun i hi => (hb.cell (p := ⟨b, off + i, none⟩) hlt).trans (h i hi)⟩
theorem tnth_at {ts : List ByteArray} {i : Nat} (h : i < ts.length) : ts[i]? = some (tnth ts i) := by
 unfold tnth; rw [List.getD_eq_getElem?_getD, List.getElem?_eq_getElem h]; rfl
theorem row_lit (w : World) (e : TypeId) (ts : List ByteArray) (cs : Array Value) (n : Nat) (hn : ts.length = n) (hcs : cs = (ts.map Value.string).toArray) : RowT (w.alloc (.cells cs e)) (.slice (some ⟨w.heap.size, 0, none⟩) n n) ts := by
 subst hn hcs
 refine ⟨_, _, rfl, .inr ⟨w.heap.size, 0, rfl, Nat.le_refl _, by simp, fun i hi => ?_⟩⟩
 rw [Nat.zero_add, Joins.cell_of_block (blk_new w _ e) i, List.getElem?_toArray, List.getElem?_map, tnth_at hi]
 rfl
def OwnS (w : World) (B : Nat) (v : Value) (ts : List ByteArray) : Prop := w.ownsRow B 9 1 v ts.length (ts.map Value.string)
theorem OwnS.row {w : World} {B : Nat} {v : Value} {ts : List ByteArray} (h : OwnS w B v ts) : RowT w v ts := by
 obtain ⟨hl, h⟩ := h
 rcases h with ⟨rfl, h0⟩ | ⟨g, cap, cur, rfl, hB, hg, hc, _, hs, htk⟩
 ·exact ⟨none, 0, by rw [h0], .inl (List.length_eq_zero_iff.1 h0)⟩
 ·refine ⟨_, cap, rfl, .inr ⟨g, 0, rfl, hc, (Array.getElem?_eq_some_iff.1 hg).1, fun i hi => ?_⟩⟩
  rw [Nat.zero_add, Joins.cell_of_block hg i]
  have h1 : (cur.toList.take (ts.length * 1))[i]? = some (.string (tnth ts i)) := by
   rw [htk, List.getElem?_map, List.getElem?_eq_getElem hi]
   simp [tnth, List.getD_eq_getElem?_getD, List.getElem?_eq_getElem hi]
  rw [List.getElem?_take] at h1
  split at h1
  ·simpa using h1
  ·cases h1
theorem OwnS.below {w w' : World} {B : Nat} {v : Value} {ts : List ByteArray} (h : OwnS w B v ts) (hb : Below w.heap.size w w') : OwnS w' B v ts := by
 obtain ⟨hl, h⟩ := h
 refine ⟨hl, ?_⟩
 rcases h with h | ⟨g, cap, cur, hv, hB, hgb, h⟩
 ·exact .inl h
 ·exact .inr ⟨g, cap, cur, hv, hB, (hb.block g (Array.getElem?_eq_some_iff.1 hgb).1).trans hgb, h⟩
theorem OwnS.mono {w : World} {B B' : Nat} {v : Value} {ts : List ByteArray} (h : OwnS w B v ts) (hb : B' ≤ B) : OwnS w B' v ts := by
 obtain ⟨hl, h⟩ := h
 refine ⟨hl, ?_⟩
 rcases h with h | ⟨g, cap, cur, hv, hB, h⟩
 ·exact .inl h
 ·exact .inr ⟨g, cap, cur, hv, by omega, h⟩
theorem OwnS.nil (w : World) (B : Nat) : OwnS w B (.slice none 0 0) [] := World.ownsRow_nil _ _ _ _
theorem OwnS.made (w : World) (B : Nat) (hB : B ≤ w.heap.size) : OwnS (w.alloc (.cells #[] 9)) B (.slice (some ⟨w.heap.size, 0, none⟩) 0 0) [] :=
 World.ownsRow_made w #[] 0 hB (by decide) rfl
theorem OwnS.kp {w w1 : World} {v v1 : Value} {B : Nat} {zs : List ByteArray} (h : Kp w w1 v v1) (ho : OwnS w B v zs) (hB : B ≤ w.heap.size) : Below B w w1 := by
 refine ⟨h.os, h.tape, h.output, h.size, fun k hk => h.block k (Nat.lt_of_lt_of_le hk hB) fun hn => ?_⟩
 unfold OwnS at ho
 have := (ho.lt k hn.symm).1
 omega
theorem OwnS.drew {w : World} {B : Nat} {v : Value} {ts : List ByteArray} (h : OwnS w B v ts) : OwnS w.drew B v ts := h
end Go.Proofs.YtakfniknkejgpaaDoor.Tx

/- The reader of the wire: what it takes, what is left. -/
namespace Go.Proofs.YtakfniknkejgpaaDoor.Rr
open Go.RowKit Go.Proofs.YtakfniknkejgpaaDoor.Sl Go.Proofs.YtakfniknkejgpaaDoor.By Go.Proofs.YtakfniknkejgpaaDoor.Ap

def RowU (B : Nat) (w : World) (v : Value) (xs : List Int) : Prop :=
 ∃ a cap, v = .slice a xs.length cap ∧ xs.length ≤ cap ∧ (xs = [] ∨ ∃ b off, a = some ⟨b, off, none⟩ ∧ b < B ∧ ∀ i, i < xs.length → w.cell? ⟨b, off + i, none⟩ = some (.int .u8 (nth xs i))) ∧ ∀ x ∈ xs, 0 ≤ x ∧ x ≤ 255
theorem RowU.of {w : World} {v : Value} {xs : List Int} (h : RowB w v xs) : RowU w.heap.size w v xs := by
 obtain ⟨a, cap, rfl, h, hr⟩ := h
 rcases h with rfl | ⟨b, off, rfl, hc, hlt, h⟩
 ·exact ⟨a, cap, rfl, Nat.zero_le _, .inl rfl, hr⟩
 ·exact ⟨_, cap, rfl, hc, .inr ⟨b, off, rfl, hlt, h⟩, hr⟩
theorem RowU.row {B : Nat} {w : World} {v : Value} {xs : List Int} (h : RowU B w v xs) (hB : B ≤ w.heap.size) : RowB w v xs := by
 obtain ⟨a, cap, rfl, hc, h, hr⟩ := h
 rcases h with rfl | ⟨b, off, rfl, hlt, h⟩
 ·exact ⟨a, cap, rfl, .inl rfl, hr⟩
 ·exact ⟨_, cap, rfl, .inr ⟨b, off, rfl, hc, Nat.lt_of_lt_of_le hlt hB, h⟩, hr⟩
theorem RowU.kept {B : Nat} {w w' : World} {v : Value} {xs : List Int} (h : RowU B w v xs) (hb : ∀ k, k < B → w'.heap[k]? = w.heap[k]?) : RowU B w' v xs := by
 obtain ⟨a, cap, rfl, hc, h, hr⟩ := h
 refine ⟨a, cap, rfl, hc, ?_, hr⟩
 rcases h with h | ⟨b, off, rfl, hlt, h⟩
 ·exact .inl h
 ·exact .inr ⟨b, off, rfl, hlt, fun i hi => (World.cell?_of_block (a := ⟨b, off + i, none⟩) (hb b hlt)).trans (h i hi)⟩

def Rdr (B : Nat) (w : World) (p : Nat) (xs : List Int) (sh : Bool) : Prop := ∃ v, w.heap[p]? = some (.cells #[v, .bool sh] 98 (0, 0)) ∧ RowU B w v xs
theorem Rdr.kept {B p : Nat} {w w' : World} {xs : List Int} {sh : Bool} (h : Rdr B w p xs sh) (hp : w'.heap[p]? = w.heap[p]?) (hb : ∀ k, k < B → w'.heap[k]? = w.heap[k]?) : Rdr B w' p xs sh := by
 obtain ⟨v, h1, h2⟩ := h
 exact ⟨v, hp.trans h1, h2.kept hb⟩
theorem Rdr.lt {B p : Nat} {w : World} {xs : List Int} {sh : Bool} (h : Rdr B w p xs sh) : p < w.heap.size := by
 obtain ⟨v, h1, _⟩ := h
 exact (Array.getElem?_eq_some_iff.1 h1).1

def tkB (n : Nat) (xs : List Int) : List Int := if xs.length < n then [] else xs.take n
def tkR (n : Nat) (xs : List Int) : List Int := if xs.length < n then [] else xs.drop n
def tkS (n : Nat) (xs : List Int) (sh : Bool) : Bool := sh || decide (xs.length < n)

theorem grown_set {w : World} {p : Nat} (i : Nat) (x : Value) : w.grownBy (w.setCell ⟨p, i, none⟩ x) (some p) :=
 ⟨rfl, rfl, rfl, by simp, fun k _ hk => Below.heap_setCell w ⟨p, i, none⟩ x k (fun e => hk (by rw [e]))⟩
theorem grown_trans {w w1 w2 : World} {r : Option Nat} (h : w.grownBy w1 r) (g : w1.grownBy w2 r) : w.grownBy w2 r :=
 ⟨g.os.trans h.os, g.tape.trans h.tape, g.output.trans h.output, Nat.le_trans h.size g.size, fun k hk hn => (g.block k (Nat.lt_of_lt_of_le hk h.size) hn).trans (h.block k hk hn)⟩
theorem grown_refl (w : World) (r : Option Nat) : w.grownBy w r := ⟨rfl, rfl, rfl, Nat.le_refl _, fun _ _ _ => rfl⟩
theorem below_kept {B p : Nat} {w w' : World} (h : w.grownBy w' (some p)) (hB : B ≤ p) (hp : p < w.heap.size) : ∀ k, k < B → w'.heap[k]? = w.heap[k]? :=
 fun k hk => h.block k (by omega) (by simp; omega)
theorem nth_take {xs : List Int} {n i : Nat} (h : i < n) : nth (xs.take n) i = nth xs i := by
 unfold nth; rw [List.getD_eq_getElem?_getD, List.getD_eq_getElem?_getD, List.getElem?_take_of_lt h]
theorem nth_drop {xs : List Int} {n i : Nat} : nth (xs.drop n) i = nth xs (n + i) := by
 unfold nth; rw [List.getD_eq_getElem?_getD, List.getD_eq_getElem?_getD, List.getElem?_drop]

theorem set0 {w : World} {p : Nat} {v x y : Value} {t : TypeId} (h : w.heap[p]? = some (.cells #[v, y] t (0, 0))) : (w.setCell ⟨p, 0, none⟩ x).heap[p]? = some (.cells #[x, y] t (0, 0)) := Joins.block_setCell (i := 0) h x
theorem set1 {w : World} {p : Nat} {v x y : Value} {t : TypeId} (h : w.heap[p]? = some (.cells #[v, y] t (0, 0))) : (w.setCell ⟨p, 1, none⟩ x).heap[p]? = some (.cells #[v, x] t (0, 0)) := Joins.block_setCell (i := 1) h x
theorem len_take {xs : List Int} {n : Nat} (h : n ≤ xs.length) : (xs.take n).length = n := by rw [List.length_take]; omega
theorem row_take {B : Nat} {w : World} {a : Option Addr} {cap n : Nat} {xs : List Int} (h : RowU B w (.slice a xs.length cap) xs) (hn : n ≤ xs.length) : RowU B w (.slice a n cap) (xs.take n) := by
 obtain ⟨a', cap', e, hc, h, hr⟩ := h
 simp only [Value.slice.injEq, true_and] at e
 obtain ⟨rfl, rfl⟩ := e
 refine ⟨a, cap, by rw [len_take hn], by rw [len_take hn]; omega, ?_, fun x hx => hr x (List.mem_of_mem_take hx)⟩
 rcases h with rfl | ⟨b, off, rfl, hlt, h⟩
 ·exact .inl (by simp)
 ·refine .inr ⟨b, off, rfl, hlt, fun i hi => ?_⟩
  rw [len_take hn] at hi
  rw [nth_take hi]
  exact h i (by omega)
theorem row_drop {B : Nat} {w : World} {a : Option Addr} {cap n : Nat} {xs : List Int} (h : RowU B w (.slice a xs.length cap) xs) (hn : n ≤ xs.length) : RowU B w (.slice (if cap = n then a else a.map (·.add n)) (xs.length - n) (cap - n)) (xs.drop n) := by
 obtain ⟨a', cap', e, hc, h, hr⟩ := h
 simp only [Value.slice.injEq, true_and] at e
 obtain ⟨rfl, rfl⟩ := e
 refine ⟨_, cap - n, by rw [List.length_drop], by rw [List.length_drop]; omega, ?_, fun x hx => hr x (List.mem_of_mem_drop hx)⟩
 by_cases he : xs.length = n
 ·exact .inl (List.drop_eq_nil_of_le (by omega))
 ·rcases h with rfl | ⟨b, off, rfl, hlt, h⟩
  ·exact .inl (by simp)
  ·rw [if_neg (by omega)]
   refine .inr ⟨b, off + n, by simp [addr_add], hlt, fun i hi => ?_⟩
   rw [List.length_drop] at hi
   rw [nth_drop, Nat.add_assoc]
   exact h (n + i) (by omega)

set_option maxHeartbeats 800000 in
theorem take_any (n p B : Nat) (xs : List Int) (sh : Bool) (w : World) (h : Rdr B w p xs sh) (hB : B ≤ p) (hn : n ≤ 70000) (_hx : xs.length ≤ 70000) :
 Calls Tryd.prog 87 #[.pointer (some ⟨p, 0, none⟩), .int .i64 n] w fun e w' => ∃ v', e = .returned v' ∧ RowU B w' v' (tkB n xs) ∧ Rdr B w' p (tkR n xs) (tkS n xs sh) ∧ w.grownBy w' (some p) := by
 have hp := h.lt
 obtain ⟨v, h1, hu⟩ := h
 have c0 := Joins.cell_of_block h1 0
 have c1 := Joins.cell_of_block h1 1
 have f0 := Joins.unfrozen_of_block h1 0
 have f1 := Joins.unfrozen_of_block h1 1
 have HU : Hid (RowU B w v xs) := hu
 obtain ⟨a, cap, rfl, hcap, hc, hr⟩ := hu
 simp at c0 c1
 have H1 : Hid (w.heap[p]? = some (.cells #[.slice a xs.length cap, .bool sh] 98 (0, 0))) := h1
 clear h1 hc hr
 by_cases hlt : xs.length < n
 ·have hlt' : (xs.length : Int) < (n : Int) := by omega
  have e1 : Hid (tkB n xs = [] ∧ tkR n xs = [] ∧ tkS n xs sh = true) := ⟨if_pos hlt, if_pos hlt, by unfold tkS; simp [hlt]⟩
  clear hlt
  go_enter Tryd.func87, Tryd.ntmps87
  go_wp2
  go_ret
  rw [e1.out.1, e1.out.2.1, e1.out.2.2]
  exact ⟨_, rfl, ⟨none, 0, rfl, Nat.le_refl _, .inl rfl, fun x hx => by cases hx⟩, ⟨_, set1 (set0 H1.out), none, 0, rfl, Nat.le_refl _, .inl rfl, fun x hx => by cases hx⟩, grown_trans (grown_set _ _) (grown_set _ _)⟩
 ·have hlt' : (n : Int) ≤ (xs.length : Int) := by omega
  have e1 : Hid (tkB n xs = xs.take n ∧ tkR n xs = xs.drop n ∧ tkS n xs sh = sh) := ⟨if_neg hlt, if_neg hlt, by unfold tkS; simp [hlt]⟩
  have HT : Hid (RowU B w (.slice a n cap) (xs.take n)) := row_take HU.out (show n ≤ xs.length by omega)
  have HD := row_drop HU.out (show n ≤ xs.length by omega)
  by_cases hcn : cap = n
  ·subst hcn
   rw [if_pos rfl, Nat.sub_self] at HD
   rw [show xs.length - cap = 0 by omega] at HD
   have HD' : Hid (RowU B w (.slice a 0 0) (xs.drop cap)) := HD
   clear hlt HD
   go_enter Tryd.func87, Tryd.ntmps87
   go_wp2
   go_ret
   rw [e1.out.1, e1.out.2.1, e1.out.2.2]
   refine ⟨_, rfl, RowU.kept HT.out (below_kept (grown_set _ _) hB hp), ⟨_, set0 H1.out, RowU.kept HD'.out (below_kept (grown_set _ _) hB hp)⟩, grown_set _ _⟩
  ·rw [if_neg hcn] at HD
   have HD' : Hid (RowU B w (.slice (a.map (·.add n)) (xs.length - n) (cap - n)) (xs.drop n)) := HD
   clear hlt HD
   go_enter Tryd.func87, Tryd.ntmps87
   go_wp2
   go_ret
   rw [e1.out.1, e1.out.2.1, e1.out.2.2]
   refine ⟨_, rfl, RowU.kept HT.out (below_kept (grown_set _ _) hB hp), ⟨_, set0 H1.out, RowU.kept HD'.out (below_kept (grown_set _ _) hB hp)⟩, grown_set _ _⟩

def beN : List Int → Int := fun xs => xs.foldl (fun n x => n * 256 + x) 0
theorem beN_snoc (xs : List Int) (x : Int) : beN (xs ++ [x]) = beN xs * 256 + x := by unfold beN; rw [List.foldl_append]; rfl
theorem fold_range : ∀ (xs : List Int) (a : Int), (∀ x ∈ xs, 0 ≤ x ∧ x ≤ 255) → 0 ≤ a → 0 ≤ xs.foldl (fun n x => n * 256 + x) a ∧ xs.foldl (fun n x => n * 256 + x) a < (a + 1) * 256 ^ xs.length
 | [], a, _, h => by simp; omega
 | x :: xs, a, hr, h => by
   have hx := hr x (by simp)
   have ih := fold_range xs (a * 256 + x) (fun y hy => hr y (by simp [hy])) (by omega)
   refine ⟨ih.1, Int.lt_of_lt_of_le ih.2 ?_⟩
   rw [List.length_cons, Int.pow_succ, Int.mul_comm (256 ^ xs.length) 256, ← Int.mul_assoc]
   exact Int.mul_le_mul_of_nonneg_right (by omega) (Int.le_of_lt (Int.pow_pos (by decide)))
theorem beN_range (xs : List Int) (h : ∀ x ∈ xs, 0 ≤ x ∧ x ≤ 255) : 0 ≤ beN xs ∧ beN xs < 256 ^ xs.length := by
 have := fold_range xs 0 h (by decide)
 unfold beN
 simpa using this
theorem take_succ_nth {xs : List Int} {k : Nat} (h : k < xs.length) : xs.take (k + 1) = xs.take k ++ [nth xs k] := by
 rw [List.take_add_one, List.getElem?_eq_getElem h]; simp [nth, List.getElem?_eq_getElem h]

theorem or64 (m x : Int) (h0 : 0 ≤ m) (h1 : m < 16777216) (h2 : 0 ≤ x) (h3 : x ≤ 255) : bits .or .i64 (m * 256) x = m * 256 + x := by
 obtain ⟨M, rfl⟩ : ∃ M : Nat, m = M := ⟨m.toNat, by omega⟩
 obtain ⟨X, rfl⟩ : ∃ X : Nat, x = X := ⟨x.toNat, by omega⟩
 have e : bits .or .i64 ((M : Int) * 256) (X : Int) = IntKind.i64.wrap (((BitVec.ofInt 64 ((M : Int) * 256) ||| BitVec.ofInt 64 (X : Int)).toNat : Nat) : Int) := rfl
 have e1 := ofInt_u64 (M * 256) (by omega)
 have e2 := ofInt_u64 X (by omega)
 have e3 : ((M : Int) * 256) = ((M * 256 : Nat) : Int) := by omega
 have e4 : M * 256 ||| X = M * 256 + X := by
  have := Nat.two_pow_add_eq_or_of_lt (i := 8) (b := X) (by omega) M
  rw [Nat.mul_comm]
  exact this.symm
 rw [e, e3, BitVec.toNat_or, e1, e2, e4, IntKind.wrap_i64]
 omega
theorem val_eq {k : IntKind} {a b : Int} (h : a = b) : Value.int k a = .int k b := by rw [h]
theorem tkB_len (n : Nat) (xs : List Int) : (tkB n xs).length ≤ n := by unfold tkB; split; simp; rw [List.length_take]; omega
theorem tkB_range {n : Nat} {xs : List Int} (h : ∀ x ∈ xs, 0 ≤ x ∧ x ≤ 255) : ∀ x ∈ tkB n xs, 0 ≤ x ∧ x ≤ 255 := by
 unfold tkB; split
 ·intro x hx; cases hx
 ·exact fun x hx => h x (List.mem_of_mem_take hx)
theorem tkR_range {n : Nat} {xs : List Int} (h : ∀ x ∈ xs, 0 ≤ x ∧ x ≤ 255) : ∀ x ∈ tkR n xs, 0 ≤ x ∧ x ≤ 255 := by
 unfold tkR; split
 ·intro x hx; cases hx
 ·exact fun x hx => h x (List.mem_of_mem_drop hx)
theorem tkR_len (n : Nat) (xs : List Int) : (tkR n xs).length ≤ xs.length := by unfold tkR; split; simp; rw [List.length_drop]; omega

set_option maxHeartbeats 800000 in
theorem number_any (n p B : Nat) (xs : List Int) (sh : Bool) (w : World) (h : Rdr B w p xs sh) (hB : B ≤ p) (hn : n ≤ 4) (hx : xs.length ≤ 70000) (hr : ∀ x ∈ xs, 0 ≤ x ∧ x ≤ 255) :
 Calls Tryd.prog 60 #[.pointer (some ⟨p, 0, none⟩), .int .i64 n] w fun e w' => e = .returned (.int .i64 (beN (tkB n xs))) ∧ Rdr B w' p (tkR n xs) (tkS n xs sh) ∧ w.grownBy w' (some p) := by
 have hp := h.lt
 have hl4 := tkB_len n xs
 have hrg := tkB_range (n := n) hr
 go_enter Tryd.func60, Tryd.ntmps60
 go_wp2_with fail
 refine (take_any n p B xs sh _ h hB (by omega) hx).mono ?_
 rintro e w1 ⟨v1, rfl, u1, r1, g1⟩
 obtain ⟨ys, HY⟩ : ∃ ys, Hid (tkB n xs = ys) := ⟨_, rfl⟩
 rw [HY.out] at u1 hl4 hrg
 have R1 : Hid (Rdr B w1 p (tkR n xs) (tkS n xs sh)) := r1
 obtain ⟨a, cap, rfl, hcap, hc, _⟩ := u1
 clear r1 h
 go_wp2_with fail
 go_loop [5, 7, 12] (fun v _ i => ∃ k : Nat, k ≤ ys.length ∧ i = .int .i64 k ∧ v = .int .i64 (beN (ys.take k))) (fun _ _ i => ys.length - (intOf i).toNat)
 case atStart => exact ⟨0, by omega, rfl, rfl⟩
 case round =>
  obtain ⟨k, hk, rfl, rfl⟩ := hrel
  by_cases hlt : k < ys.length
  ·rcases hc with hc | ⟨b, off, rfl, hb, hcell⟩
   ·exact absurd hlt (by rw [hc]; simp)
   have hc1 := hcell k hlt
   have hx1 := range_at hrg k
   have HM : Hid (beN (ys.take (k + 1)) = beN (ys.take k) * 256 + nth ys k) := by show _ = _; rw [take_succ_nth hlt, beN_snoc]
   have hbn := beN_range (ys.take k) (fun x hx => hrg x (List.mem_of_mem_take hx))
   have hb2 : beN (ys.take k) < 16777216 := by
    have : (256 : Int) ^ (ys.take k).length ≤ 256 ^ 3 := by
     have h3 : (ys.take k).length ≤ 3 := by rw [List.length_take]; omega
     generalize (ys.take k).length = q at h3
     match q, h3 with
     | 0, _ => decide
     | 1, _ => decide
     | 2, _ => decide
     | 3, _ => decide
    have e : (256 : Int) ^ 3 = 16777216 := rfl
    omega
   generalize beN (ys.take k) = m at hbn hb2 HM
   have hb0 := hbn.1
   clear hcell hbn
   go_wp2
   exact ⟨⟨k + 1, by omega, by go_num, val_eq (by rw [or64 _ _ hb0 hb2 hx1.1 hx1.2, HM.out])⟩, by simp [intOf]; omega⟩
  ·obtain rfl : k = ys.length := by omega
   go_wp2
   go_ret
   exact ⟨by rw [HY.out]; rfl, R1.out, g1⟩

def txtN (n : Nat) (xs : List Int) : Nat := (beN (tkB n xs)).toNat
def txtB (n : Nat) (xs : List Int) : ByteArray := strOfNums (tkB (txtN n xs) (tkR n xs))
def txtR (n : Nat) (xs : List Int) : List Int := tkR (txtN n xs) (tkR n xs)
def txtS (n : Nat) (xs : List Int) (sh : Bool) : Bool := tkS (txtN n xs) (tkR n xs) (tkS n xs sh)
theorem txtN_le (n : Nat) (xs : List Int) (hn : n ≤ 2) (hr : ∀ x ∈ xs, 0 ≤ x ∧ x ≤ 255) : txtN n xs ≤ 65535 ∧ beN (tkB n xs) = (txtN n xs : Int) := by
 have h1 := beN_range _ (tkB_range (n := n) hr)
 have h2 := tkB_len n xs
 have h3 : (256 : Int) ^ (tkB n xs).length ≤ 65536 := by
  generalize (tkB n xs).length = q at h2
  have h3 : q ≤ 2 := by omega
  match q, h3 with
  | 0, _ => decide
  | 1, _ => decide
  | 2, _ => decide
 unfold txtN
 omega
theorem run_convert_zero {P : Program} (w : World) (src e : TypeId) (hs : P.underlying src = some (.slice e)) (he : P.underlying e = some (.int .u8)) (a : Option Addr) (c : Nat) (dst : TypeId) (hd : P.underlying dst = some .string) :
 (convert src dst (.slice a 0 c)).run P w = .ok (.string (strOfNums [])) w := by
 cases a with
 | none => rw [run_convert_bytes_nil w src e hs he 0 c dst hd]; rfl
 | some ad =>
   unfold convert
   simp [run_underlying hs, run_underlying he, run_underlying hd]
   rfl
theorem run_convert_row {P : Program} (w : World) (B : Nat) (src e dst : TypeId) (hs : P.underlying src = some (.slice e)) (he : P.underlying e = some (.int .u8)) (hd : P.underlying dst = some .string)
 (v : Value) (zs : List Int) (h : RowU B w v zs) : (convert src dst v).run P w = .ok (.string (strOfNums zs)) w := by
 obtain ⟨a, cap, rfl, hc, h, _⟩ := h
 rcases h with rfl | ⟨b, off, rfl, hb, h⟩
 ·exact run_convert_zero w src e hs he a cap dst hd
 ·refine run_convert_bytes_arg w src e hs he b off zs.length cap zs rfl (fun i hi => ?_) dst hd
  exact h i hi

set_option maxHeartbeats 800000 in
theorem text_any (n p B : Nat) (xs : List Int) (sh : Bool) (w : World) (h : Rdr B w p xs sh) (hB : B ≤ p) (hn : n ≤ 2) (hx : xs.length ≤ 70000) (hr : ∀ x ∈ xs, 0 ≤ x ∧ x ≤ 255) :
 Calls Tryd.prog 88 #[.pointer (some ⟨p, 0, none⟩), .int .i64 n] w fun e w' => e = .returned (.string (txtB n xs)) ∧ Rdr B w' p (txtR n xs) (txtS n xs sh) ∧ w.grownBy w' (some p) := by
 have hp := h.lt
 obtain ⟨t1, t2⟩ := txtN_le n xs hn hr
 have T2 : Hid (_) := t2
 clear t2
 go_enter Tryd.func88, Tryd.ntmps88
 go_wp2_with fail
 refine (number_any n p B xs sh _ h hB (by omega) hx hr).mono ?_
 rintro e w1 ⟨rfl, r1, g1⟩
 rw [T2.out]
 go_wp2_with fail
 refine (take_any (txtN n xs) p B _ _ _ r1 hB (by omega) (Nat.le_trans (tkR_len _ _) hx)).mono ?_
 rintro e w2 ⟨v2, rfl, u2, r2, g2⟩
 have hcv := run_convert_row (P := Tryd.prog) w2 B 22 5 9 Tryd.underlying22 Tryd.underlying5 Tryd.underlying9 v2 _ u2
 clear u2 r1
 go_wp2
 go_ret
 exact ⟨rfl, r2, grown_trans g1 g2⟩
theorem blk_cell {w : World} {b : Nat} {cs : Array Value} {t : TypeId} (h : w.heap[b]? = some (.cells cs t (0, 0))) (i : Nat) {x : Value} (hx : cs[i]? = some x) : w.cell? ⟨b, i, none⟩ = some x ∧ w.frozen? ⟨b, i, none⟩ = false :=
 ⟨(Joins.cell_of_block h i).trans hx, Joins.unfrozen_of_block h i⟩
theorem blk_set {w : World} {b : Nat} {cs : Array Value} {t : TypeId} (h : w.heap[b]? = some (.cells cs t (0, 0))) (i : Nat) (x : Value) : (w.setCell ⟨b, i, none⟩ x).heap[b]? = some (.cells (cs.setIfInBounds i x) t (0, 0)) := Joins.block_setCell h x
theorem blk_far {w : World} {b k : Nat} (hk : k ≠ b) (i : Nat) (x : Value) : (w.setCell ⟨b, i, none⟩ x).heap[k]? = w.heap[k]? := Below.heap_setCell w ⟨b, i, none⟩ x k hk
theorem rdr_set {B p b : Nat} {w : World} {xs : List Int} {sh : Bool} (h : Rdr B w p xs sh) (hb : p ≠ b) (hB : B ≤ b) (i : Nat) (x : Value) : Rdr B (w.setCell ⟨b, i, none⟩ x) p xs sh :=
 h.kept (blk_far hb i x) (fun k hk => blk_far (by omega) i x)
theorem rdr_alloc {B p : Nat} {w : World} {xs : List Int} {sh : Bool} (h : Rdr B w p xs sh) (hB : B ≤ p) (o : Obj) : Rdr B (w.alloc o) p xs sh :=
 h.kept (Below.heap_alloc w o p h.lt) (fun k hk => Below.heap_alloc w o k (by have := h.lt; omega))
theorem blk_new (w : World) (cs : Array Value) (t : TypeId) : (w.alloc (.cells cs t)).heap[w.heap.size]? = some (.cells cs t (0, 0)) := heap_alloc_new w _
theorem blk_kept {w w' : World} {p b : Nat} {o : Obj} (h : w.heap[b]? = some o) (hg : w.grownBy w' (some p)) (hb : b ≠ p) : w'.heap[b]? = some o :=
 (hg.block b (Array.getElem?_eq_some_iff.1 h).1 (by simpa using hb)).trans h

theorem grown_new {w w' : World} {p b : Nat} (h : w.grownBy w' (some p)) (hb : w.heap.size ≤ b) (i : Nat) (x : Value) : w.grownBy (w'.setCell ⟨b, i, none⟩ x) (some p) :=
 ⟨h.os, h.tape, h.output, by simpa using h.size, fun k hk hn => (blk_far (by omega) i x).trans (h.block k hk hn)⟩
theorem grown_alloc {w w' : World} {r : Option Nat} (h : w.grownBy w' r) (o : Obj) : w.grownBy (w'.alloc o) r :=
 ⟨h.os, h.tape, h.output, Nat.le_trans h.size (by simp), fun k hk hn => (Below.heap_alloc w' o k (Nat.lt_of_lt_of_le hk h.size)).trans (h.block k hk hn)⟩

theorem txtR_range {n : Nat} {xs : List Int} (h : ∀ x ∈ xs, 0 ≤ x ∧ x ≤ 255) : ∀ x ∈ txtR n xs, 0 ≤ x ∧ x ≤ 255 := tkR_range (tkR_range h)
theorem txtR_len (n : Nat) (xs : List Int) : (txtR n xs).length ≤ xs.length := Nat.le_trans (tkR_len _ _) (tkR_len _ _)
end Go.Proofs.YtakfniknkejgpaaDoor.Rr

/- What the helpers of both NameOK functions answer, and what each of the two answers: for every number, for every text. -/
namespace Go.Proofs.YtakfniknkejgpaaDoor.Nm
open Go.RowKit

def letB (n : Int) : Bool := decide (97 ≤ n ∧ n ≤ 122 ∨ 65 ≤ n ∧ n ≤ 90 ∨ n = 95)
def digB (n : Int) : Bool := decide (48 ≤ n ∧ n ≤ 57)
theorem ret_bool {a b : Bool} (h : a = b) : Ending.returned (.bool a) = .returned (.bool b) := by rw [h]
theorem regions (n : Int) : n ≤ 64 ∨ (65 ≤ n ∧ n ≤ 90) ∨ (91 ≤ n ∧ n ≤ 94) ∨ n = 95 ∨ n = 96 ∨ (97 ≤ n ∧ n ≤ 122) ∨ 123 ≤ n := by omega
theorem digions (n : Int) : n ≤ 47 ∨ (48 ≤ n ∧ n ≤ 57) ∨ 58 ≤ n := by omega

theorem isLetter_any (n : Int) (w : World) :
 Calls Tryd.prog 119 #[.int .i32 n] w fun e w' => e = .returned (.bool (letB n)) ∧ w' = w := by
 rcases regions n with h | ⟨h, h'⟩ | ⟨h, h'⟩ | rfl | rfl | ⟨h, h'⟩ | h
 all_goals
  go_enter Tryd.func119, Tryd.ntmps119
  go_wp2
  go_ret
  exact ⟨ret_bool (by unfold letB; rw [Bool.eq_iff_iff]; simp; try omega), rfl⟩
theorem isDigit_any (n : Int) (w : World) :
 Calls Tryd.prog 120 #[.int .i32 n] w fun e w' => e = .returned (.bool (digB n)) ∧ w' = w := by
 rcases digions n with h | ⟨h, h'⟩ | h
 all_goals
  go_enter Tryd.func120, Tryd.ntmps120
  go_wp2
  go_ret
  exact ⟨ret_bool (by unfold digB; rw [Bool.eq_iff_iff]; simp; try omega), rfl⟩
theorem l00Letter_any (n : Int) (w : World) :
 Calls Tryd.prog 122 #[.int .u8 n] w fun e w' => e = .returned (.bool (letB n)) ∧ w' = w := by
 rcases regions n with h | ⟨h, h'⟩ | ⟨h, h'⟩ | rfl | rfl | ⟨h, h'⟩ | h
 all_goals
  go_enter Tryd.func122, Tryd.ntmps122
  go_wp2
  go_ret
  exact ⟨ret_bool (by unfold letB; rw [Bool.eq_iff_iff]; simp; try omega), rfl⟩
theorem l00Digit_any (n : Int) (w : World) :
 Calls Tryd.prog 123 #[.int .u8 n] w fun e w' => e = .returned (.bool (digB n)) ∧ w' = w := by
 rcases digions n with h | ⟨h, h'⟩ | h
 all_goals
  go_enter Tryd.func123, Tryd.ntmps123
  go_wp2
  go_ret
  exact ⟨ret_bool (by unfold digB; rw [Bool.eq_iff_iff]; simp; try omega), rfl⟩

def okAt (s : ByteArray) (i : Nat) : Bool := letB ((s.data.toList.getD i 0).toNat : Int) || (decide (i ≠ 0) && digB ((s.data.toList.getD i 0).toNat : Int))
def nameB (s : ByteArray) : Bool := decide (1 ≤ s.size ∧ s.size ≤ 40 ∧ ∀ i, i < s.size → okAt s i = true)
theorem getD_at (s : ByteArray) (i : Nat) (h : i < s.size) : s.data.toList.getD i 0 = s[i] := by
 have : i < s.data.toList.length := by simpa using h
 simp [List.getD_eq_getElem?_getD, List.getElem?_eq_getElem this]; rfl
theorem okAt_eq (s : ByteArray) (i : Nat) (h : i < s.size) : okAt s i = (letB (s[i].toNat : Int) || (decide (i ≠ 0) && digB (s[i].toNat : Int))) := by
 unfold okAt; rw [getD_at s i h]
theorem name_no (s : ByteArray) (i : Nat) (h : i < s.size) (hn : okAt s i = false) : nameB s = false := by
 unfold nameB; simp only [decide_eq_false_iff_not]; rintro ⟨_, _, h'⟩; rw [h' i h] at hn; cases hn
theorem name_yes (s : ByteArray) (h1 : 1 ≤ s.size) (h2 : s.size ≤ 40) (h : ∀ i, i < s.size → okAt s i = true) : nameB s = true := by
 unfold nameB; simp only [decide_eq_true_eq]; exact ⟨h1, h2, h⟩
theorem name_small (s : ByteArray) (h : s.size = 0 ∨ 40 < s.size) : nameB s = false := by
 unfold nameB; simp only [decide_eq_false_iff_not]; omega

set_option maxHeartbeats 400000 in
theorem l00Word_any (s : ByteArray) (w : World) (hs : s.size ≤ maxLen) :
 Calls Tryd.prog 105 #[.string s] w fun e w' => e = .returned (.bool (nameB s)) ∧ w' = w := by
 unfold maxLen at hs
 by_cases h0 : s.size = 0
 ·have hn := name_small s (.inl h0)
  have h1 : (s.size : Int) < 1 := by omega
  go_enter Tryd.func105, Tryd.ntmps105
  go_wp2
  go_ret
  exact ⟨ret_bool hn.symm, rfl⟩
 by_cases h4 : 40 < s.size
 ·have hn := name_small s (.inr h4)
  have h1 : (1 : Int) ≤ (s.size : Int) := by omega
  have h2 : (40 : Int) < (s.size : Int) := by omega
  go_enter Tryd.func105, Tryd.ntmps105
  go_wp2
  go_ret
  exact ⟨ret_bool hn.symm, rfl⟩
 have hp : 0 < s.size := by omega
 have h1 : (1 : Int) ≤ (s.size : Int) := by omega
 have h2 : (s.size : Int) ≤ 40 := by omega
 cases hl : letB ((s[0]'hp).toNat : Int)
 ·have hn := name_no s 0 hp (by rw [okAt_eq s 0 hp, hl]; rfl)
  go_enter Tryd.func105, Tryd.ntmps105
  go_wp2_with (go_at_call 122; refine (l00Letter_any _ _).mono ?_; rintro e w' ⟨rfl, rfl⟩)
  go_ret
  exact ⟨ret_bool hn.symm, rfl⟩
 have hok0 : okAt s 0 = true := by rw [okAt_eq s 0 hp, hl]; rfl
 go_enter Tryd.func105, Tryd.ntmps105
 go_wp2_with (go_at_call 122; refine (l00Letter_any _ _).mono ?_; rintro e w' ⟨rfl, rfl⟩)
 have H0 : Hid (okAt s 0 = true) := hok0
 clear hok0 hl
 go_loop [3] (fun i => ∃ k : Nat, 1 ≤ k ∧ k ≤ s.size ∧ i = .int .i64 k ∧ Hid (∀ j, j < k → okAt s j = true)) (fun i => s.size - (intOf i).toNat)
 case atStart => exact ⟨1, Nat.le_refl _, by omega, rfl, fun j hj => (show j = 0 by omega) ▸ H0.out⟩
 case round =>
  obtain ⟨k, hk1, hk2, rfl, hall⟩ := hrel
  by_cases hlt : k < s.size
  ·cases hl : letB ((s[k]'hlt).toNat : Int)
   ·cases hd : digB ((s[k]'hlt).toNat : Int)
    ·have hn : Hid (nameB s = false) := name_no s k hlt (by rw [okAt_eq s k hlt, hl, hd]; simp)
     go_wp2_with (first | (go_at_call 122; refine (l00Letter_any _ _).mono ?_; rintro e w' ⟨rfl, rfl⟩) | (go_at_call 123; refine (l00Digit_any _ _).mono ?_; rintro e w' ⟨rfl, rfl⟩))
     go_ret
     exact ⟨ret_bool hn.out.symm, rfl⟩
    ·have hk : Hid (okAt s k = true) := by show okAt s k = true; rw [okAt_eq s k hlt, hl, hd]; simp; omega
     go_wp2_with (first | (go_at_call 122; refine (l00Letter_any _ _).mono ?_; rintro e w' ⟨rfl, rfl⟩) | (go_at_call 123; refine (l00Digit_any _ _).mono ?_; rintro e w' ⟨rfl, rfl⟩))
     go_round
     case rel => exact ⟨k + 1, by omega, by omega, by go_num, fun j hj => by by_cases e : j = k; (subst e; exact hk.out); exact hall.out j (by omega)⟩
     case measure => simp [intOf]; omega
   ·have hk : Hid (okAt s k = true) := by show okAt s k = true; rw [okAt_eq s k hlt, hl]; rfl
    go_wp2_with (first | (go_at_call 122; refine (l00Letter_any _ _).mono ?_; rintro e w' ⟨rfl, rfl⟩) | (go_at_call 123; refine (l00Digit_any _ _).mono ?_; rintro e w' ⟨rfl, rfl⟩))
    go_round
    case rel => exact ⟨k + 1, by omega, by omega, by go_num, fun j hj => by by_cases e : j = k; (subst e; exact hk.out); exact hall.out j (by omega)⟩
    case measure => simp [intOf]; omega
  ·have hn : Hid (nameB s = true) := name_yes s (by omega) (by omega) (fun j hj => hall.out j (by omega))
   go_wp2
   go_ret
   exact ⟨ret_bool hn.out.symm, rfl⟩

theorem specNameOK_any (s : ByteArray) (w : World) (hs : s.size ≤ maxLen) :
 Calls Tryd.prog 86 #[.string s] w fun e w' => e = .returned (.bool (nameB s)) ∧ w' = w := by
 go_enter Tryd.func86, Tryd.ntmps86
 go_wp2_with (go_at_call 105; refine (l00Word_any _ _ hs).mono ?_; rintro e w' ⟨rfl, rfl⟩)
 go_ret
 exact ⟨rfl, rfl⟩

theorem runes (s : ByteArray) (k : Nat) (h : k < s.size) :
 (Utf8.decode s k = ((s[k]'h).toNat, 1) ∧ ((s[k]'h).toNat : Int) < 128) ∨ (128 ≤ ((Utf8.decode s k).1 : Int) ∧ 128 ≤ ((s[k]'h).toNat : Int)) := by
 by_cases ha : (s[k]'h).toNat < 128
 ·exact .inl ⟨decode_ascii s k h ha, by omega⟩
 ·exact .inr ⟨by have := (decode_high s k h (by omega)).1; omega, by omega⟩
theorem let_high (n : Int) (h : 128 ≤ n) : letB n = false := by unfold letB; simp; omega
theorem dig_high (n : Int) (h : 128 ≤ n) : digB n = false := by unfold digB; simp; omega

set_option maxHeartbeats 400000 in
theorem implNameOK_any (s : ByteArray) (w : World) (hs : s.size ≤ maxLen) :
 Calls Tryd.prog 102 #[.string s] w fun e w' => e = .returned (.bool (nameB s)) ∧ Below w.heap.size w w' := by
 unfold maxLen at hs
 by_cases h0 : s.size = 0
 ·have hn := name_small s (.inl h0)
  have h1 : ((s.size : Int) == 0) = true := beq_iff_eq.2 (by omega)
  go_enter Tryd.func102, Tryd.ntmps102
  go_wp2
  go_ret
  exact ⟨ret_bool hn.symm, Below.refl _ _⟩
 have h1 : ((s.size : Int) == 0) = false := beq_eq_false_iff_ne.2 (by omega)
 by_cases h4 : 40 < s.size
 ·have hn := name_small s (.inr h4)
  have h2 : (40 : Int) < (s.size : Int) := by omega
  go_enter Tryd.func102, Tryd.ntmps102
  go_wp2
  go_ret
  exact ⟨ret_bool hn.symm, Below.refl _ _⟩
 have hp : 0 < s.size := by omega
 have h2 : (s.size : Int) ≤ 40 := by omega
 go_enter Tryd.func102, Tryd.ntmps102
 go_wp2
 go_loopw [] (fun w' => ∃ k : Nat, k ≤ s.size ∧ w' = w.iter s k ∧ Hid (∀ j, j < k → okAt s j = true)) (fun w' => s.size - w'.iterPos w.heap.size)
 case atStart => exact ⟨0, Nat.zero_le _, rfl, fun j hj => absurd hj (by omega)⟩
 case round =>
  obtain ⟨k, hk2, rfl, hall⟩ := hrel
  by_cases hlt : k < s.size
  ·rcases runes s k hlt with ⟨hdec, hlow⟩ | ⟨hdec, hhigh⟩
   ·have hnx : ∀ ty, (Instr.next (.pointer (some ⟨w.heap.size, 0, none⟩)) true ty).run Tryd.prog (w.iter s k) = _ := fun ty => run_next_ascii w s k ty hlt (by omega)
    clear hdec
    cases hl : letB ((s[k]'hlt).toNat : Int)
    ·by_cases hz : k = 0
     ·subst hz
      have hn : Hid (nameB s = false) := name_no s 0 hlt (by rw [okAt_eq s 0 hlt, hl]; rfl)
      go_wp2_with (first | (go_at_call 119; refine (isLetter_any _ _).mono ?_; rintro e w' ⟨rfl, rfl⟩) | (go_at_call 120; refine (isDigit_any _ _).mono ?_; rintro e w' ⟨rfl, rfl⟩))
      go_ret
      exact ⟨ret_bool hn.out.symm, (Below.refl _ _).alloc (Nat.le_refl _) _⟩
     have hz' : ((k : Int) == 0) = false := beq_eq_false_iff_ne.2 (by omega)
     cases hd : digB ((s[k]'hlt).toNat : Int)
     ·have hn : Hid (nameB s = false) := name_no s k hlt (by rw [okAt_eq s k hlt, hl, hd]; simp)
      go_wp2_with (first | (go_at_call 119; refine (isLetter_any _ _).mono ?_; rintro e w' ⟨rfl, rfl⟩) | (go_at_call 120; refine (isDigit_any _ _).mono ?_; rintro e w' ⟨rfl, rfl⟩))
      go_ret
      exact ⟨ret_bool hn.out.symm, (Below.refl _ _).alloc (Nat.le_refl _) _⟩
     ·have hk : Hid (okAt s k = true) := by show okAt s k = true; rw [okAt_eq s k hlt, hl, hd]; simp; omega
      go_wp2_with (first | (go_at_call 119; refine (isLetter_any _ _).mono ?_; rintro e w' ⟨rfl, rfl⟩) | (go_at_call 120; refine (isDigit_any _ _).mono ?_; rintro e w' ⟨rfl, rfl⟩))
      go_roundw
      case rel => exact ⟨k + 1, by omega, rfl, fun j hj => by by_cases e : j = k; (subst e; exact hk.out); exact hall.out j (by omega)⟩
      case measure => simp; omega
    ·have hk : Hid (okAt s k = true) := by show okAt s k = true; rw [okAt_eq s k hlt, hl]; rfl
     go_wp2_with (first | (go_at_call 119; refine (isLetter_any _ _).mono ?_; rintro e w' ⟨rfl, rfl⟩) | (go_at_call 120; refine (isDigit_any _ _).mono ?_; rintro e w' ⟨rfl, rfl⟩))
     go_roundw
     case rel => exact ⟨k + 1, by omega, rfl, fun j hj => by by_cases e : j = k; (subst e; exact hk.out); exact hall.out j (by omega)⟩
     case measure => simp; omega
   ·have hnx : ∀ ty, (Instr.next (.pointer (some ⟨w.heap.size, 0, none⟩)) true ty).run Tryd.prog (w.iter s k) = _ := fun ty => run_next_any w s k ty hlt
    have hn : Hid (nameB s = false) := name_no s k hlt (by rw [okAt_eq s k hlt, let_high _ hhigh, dig_high _ hhigh]; simp)
    have hl := let_high _ hdec
    have hd := dig_high _ hdec
    by_cases hz : k = 0
    ·subst hz
     go_wp2_with (first | (go_at_call 119; refine (isLetter_any _ _).mono ?_; rintro e w' ⟨rfl, rfl⟩) | (go_at_call 120; refine (isDigit_any _ _).mono ?_; rintro e w' ⟨rfl, rfl⟩))
     go_ret
     exact ⟨ret_bool hn.out.symm, (Below.refl _ _).alloc (Nat.le_refl _) _⟩
    have hz' : ((k : Int) == 0) = false := beq_eq_false_iff_ne.2 (by omega)
    go_wp2_with (first | (go_at_call 119; refine (isLetter_any _ _).mono ?_; rintro e w' ⟨rfl, rfl⟩) | (go_at_call 120; refine (isDigit_any _ _).mono ?_; rintro e w' ⟨rfl, rfl⟩))
    go_ret
    exact ⟨ret_bool hn.out.symm, (Below.refl _ _).alloc (Nat.le_refl _) _⟩
  ·have hn : Hid (nameB s = true) := name_yes s (by omega) (by omega) (fun j hj => hall.out j (by omega))
   have hnx : ∀ ty, (Instr.next (.pointer (some ⟨w.heap.size, 0, none⟩)) true ty).run Tryd.prog (w.iter s k) = _ := fun ty => run_next_end w s k ty hlt
   go_wp2
   go_ret
   exact ⟨ret_bool hn.out.symm, (Below.refl _ _).alloc (Nat.le_refl _) _⟩
end Go.Proofs.YtakfniknkejgpaaDoor.Nm
