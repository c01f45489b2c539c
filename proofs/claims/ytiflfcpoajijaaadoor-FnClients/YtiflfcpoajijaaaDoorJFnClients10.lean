/- Texts put together: Rdr, TakeReq, Txs, Gq, ReqPut, Gr, Bo, Gd. -/
import Derived.Test.YtiflfcpoajijaaaDoorAp
import Derived.Test.YtiflfcpoajijaaaDoorReqLaw
import Derived.Lib.SmallJoins
import Derived.Laws.MakeOwn
import Derived.Laws.NewBlocks
import Derived.Deep.QuietTactic
import Derived.BigQuiet
import Derived.Test.YtiflfcpoajijaaaDoorQt
import Derived.BigRegion
import Derived.Test.YtiflfcpoajijaaaDoorPut
import Derived.Deep.RegionLaw
import Derived.Deep.CutRange
import Derived.Deep.DeepCutAuto
import Derived.Test.YtiflfcpoajijaaaDoorRg
import Derived.Test.YtiflfcpoajijaaaDoorReq
import Derived.Laws.StructEq
/- The reader of the wire: what it takes, what is left. -/
namespace Go.Proofs.YtiflfcpoajijaaaDoor.Rr
open Go.RowKit Go.Proofs.YtiflfcpoajijaaaDoor.Sl Go.Proofs.YtiflfcpoajijaaaDoor.By Go.Proofs.YtiflfcpoajijaaaDoor.Ap Go.Proofs.YtiflfcpoajijaaaDoor.Rq

/-- The slice v holds the bytes xs, in blocks below B. -/
def RowU (B : Nat) (w : World) (v : Value) (xs : List Int) : Prop :=
  ∃ a cap, v = .slice a xs.length cap ∧ xs.length ≤ cap ∧ (xs = [] ∨ ∃ b off, a = some ⟨b, off, none⟩ ∧ b < B ∧ ∀ i, i < xs.length → w.cell? ⟨b, off + i, none⟩ = some (.int .u8 (nth xs i))) ∧ ∀ x ∈ xs, 0 ≤ x ∧ x ≤ 255
theorem RowU.of {w : World} {v : Value} {xs : List Int} (h : RowB w v xs) : RowU w.heap.size w v xs := by
  obtain ⟨a, cap, rfl, h, hr⟩ := h
  rcases h with rfl | ⟨b, off, rfl, hc, hlt, h⟩
  · exact ⟨a, cap, rfl, Nat.zero_le _, .inl rfl, hr⟩
  · exact ⟨_, cap, rfl, hc, .inr ⟨b, off, rfl, hlt, h⟩, hr⟩
theorem RowU.row {B : Nat} {w : World} {v : Value} {xs : List Int} (h : RowU B w v xs) (hB : B ≤ w.heap.size) : RowB w v xs := by
  obtain ⟨a, cap, rfl, hc, h, hr⟩ := h
  rcases h with rfl | ⟨b, off, rfl, hlt, h⟩
  · exact ⟨a, cap, rfl, .inl rfl, hr⟩
  · exact ⟨_, cap, rfl, .inr ⟨b, off, rfl, hc, Nat.lt_of_lt_of_le hlt hB, h⟩, hr⟩
theorem RowU.kept {B : Nat} {w w' : World} {v : Value} {xs : List Int} (h : RowU B w v xs) (hb : ∀ k, k < B → w'.heap[k]? = w.heap[k]?) : RowU B w' v xs := by
  obtain ⟨a, cap, rfl, hc, h, hr⟩ := h
  refine ⟨a, cap, rfl, hc, ?_, hr⟩
  rcases h with h | ⟨b, off, rfl, hlt, h⟩
  · exact .inl h
  · exact .inr ⟨b, off, rfl, hlt, fun i hi => (World.cell?_of_block (a := ⟨b, off + i, none⟩) (hb b hlt)).trans (h i hi)⟩

/-- What is taken; what is left. -/
def tkB (n : Nat) (xs : List Int) : List Int := if xs.length < n then [] else xs.take n
def tkR (n : Nat) (xs : List Int) : List Int := if xs.length < n then [] else xs.drop n
def tkS (n : Nat) (xs : List Int) (sh : Bool) : Bool := sh || decide (xs.length < n)

theorem grown_set {w : World} {p : Nat} (i : Nat) (x : Value) : w.grownBy (w.setCell ⟨p, i, none⟩ x) (some p) :=
  ⟨rfl, rfl, rfl, by simp, fun k _ hk => Below.heap_setCell w ⟨p, i, none⟩ x k (fun e => hk (by rw [e]))⟩
theorem grown_trans {w w1 w2 : World} {r : Option Nat} (h : w.grownBy w1 r) (g : w1.grownBy w2 r) : w.grownBy w2 r :=
  ⟨g.os.trans h.os, g.tape.trans h.tape, g.output.trans h.output, Nat.le_trans h.size g.size, fun k hk hn => (g.block k (Nat.lt_of_lt_of_le hk h.size) hn).trans (h.block k hk hn)⟩
theorem grown_refl (w : World) (r : Option Nat) : w.grownBy w r := ⟨rfl, rfl, rfl, Nat.le_refl _, fun _ _ _ => rfl⟩
theorem below_kept {B p : Nat} {w w' : World} (h : w.grownBy w' (some p)) (hB : B ≤ p) (hp : p < w.heap.size) : ∀ k, k < B → w'.heap[k]? = w.heap[k]? :=
  fun k hk => h.block k (by omega) (by simp; omega)
theorem nth_take {xs : List Int} {n i : Nat} (h : i < n) : nth (xs.take n) i = nth xs i := by
  unfold nth; rw [List.getD_eq_getElem?_getD, List.getD_eq_getElem?_getD, List.getElem?_take_of_lt h]
theorem nth_drop {xs : List Int} {n i : Nat} : nth (xs.drop n) i = nth xs (n + i) := by
  unfold nth; rw [List.getD_eq_getElem?_getD, List.getD_eq_getElem?_getD, List.getElem?_drop]

theorem set0 {w : World} {p : Nat} {v x y : Value} {t : TypeId} (h : w.heap[p]? = some (.cells #[v, y] t (0, 0))) : (w.setCell ⟨p, 0, none⟩ x).heap[p]? = some (.cells #[x, y] t (0, 0)) := Joins.block_setCell (i := 0) h x
theorem set1 {w : World} {p : Nat} {v x y : Value} {t : TypeId} (h : w.heap[p]? = some (.cells #[v, y] t (0, 0))) : (w.setCell ⟨p, 1, none⟩ x).heap[p]? = some (.cells #[v, x] t (0, 0)) := Joins.block_setCell (i := 1) h x
theorem len_take {xs : List Int} {n : Nat} (h : n ≤ xs.length) : (xs.take n).length = n := by rw [List.length_take]; omega
theorem row_take {B : Nat} {w : World} {a : Option Addr} {cap n : Nat} {xs : List Int} (h : RowU B w (.slice a xs.length cap) xs) (hn : n ≤ xs.length) : RowU B w (.slice a n cap) (xs.take n) := by
  obtain ⟨a', cap', e, hc, h, hr⟩ := h
  simp only [Value.slice.injEq, true_and] at e
  obtain ⟨rfl, rfl⟩ := e
  refine ⟨a, cap, by rw [len_take hn], by rw [len_take hn]; omega, ?_, fun x hx => hr x (List.mem_of_mem_take hx)⟩
  rcases h with rfl | ⟨b, off, rfl, hlt, h⟩
  · exact .inl (by simp)
  · refine .inr ⟨b, off, rfl, hlt, fun i hi => ?_⟩
    rw [len_take hn] at hi
    rw [nth_take hi]
    exact h i (by omega)
theorem row_drop {B : Nat} {w : World} {a : Option Addr} {cap n : Nat} {xs : List Int} (h : RowU B w (.slice a xs.length cap) xs) (hn : n ≤ xs.length) : RowU B w (.slice (if cap = n then a else a.map (·.add n)) (xs.length - n) (cap - n)) (xs.drop n) := by
  obtain ⟨a', cap', e, hc, h, hr⟩ := h
  simp only [Value.slice.injEq, true_and] at e
  obtain ⟨rfl, rfl⟩ := e
  refine ⟨_, cap - n, by rw [List.length_drop], by rw [List.length_drop]; omega, ?_, fun x hx => hr x (List.mem_of_mem_drop hx)⟩
  by_cases he : xs.length = n
  · exact .inl (List.drop_eq_nil_of_le (by omega))
  · rcases h with rfl | ⟨b, off, rfl, hlt, h⟩
    · exact .inl (by simp)
    · rw [if_neg (by omega)]
      refine .inr ⟨b, off + n, by simp [addr_add], hlt, fun i hi => ?_⟩
      rw [List.length_drop] at hi
      rw [nth_drop, Nat.add_assoc]
      exact h (n + i) (by omega)

/-- The number that some bytes make, the higher ones first. -/
def beN : List Int → Int := fun xs => xs.foldl (fun n x => n * 256 + x) 0
theorem beN_snoc (xs : List Int) (x : Int) : beN (xs ++ [x]) = beN xs * 256 + x := by unfold beN; rw [List.foldl_append]; rfl
theorem fold_range : ∀ (xs : List Int) (a : Int), (∀ x ∈ xs, 0 ≤ x ∧ x ≤ 255) → 0 ≤ a → 0 ≤ xs.foldl (fun n x => n * 256 + x) a ∧ xs.foldl (fun n x => n * 256 + x) a < (a + 1) * 256 ^ xs.length
  | [], a, _, h => by simp; omega
  | x :: xs, a, hr, h => by
    have hx := hr x (by simp)
    have ih := fold_range xs (a * 256 + x) (fun y hy => hr y (by simp [hy])) (by omega)
    refine ⟨ih.1, Int.lt_of_lt_of_le ih.2 ?_⟩
    rw [List.length_cons, Int.pow_succ, Int.mul_comm (256 ^ xs.length) 256, ← Int.mul_assoc]
    exact Int.mul_le_mul_of_nonneg_right (by omega) (Int.le_of_lt (Int.pow_pos (by decide)))
theorem beN_range (xs : List Int) (h : ∀ x ∈ xs, 0 ≤ x ∧ x ≤ 255) : 0 ≤ beN xs ∧ beN xs < 256 ^ xs.length := by
  have := fold_range xs 0 h (by decide)
  unfold beN
  simpa using this
theorem take_succ_nth {xs : List Int} {k : Nat} (h : k < xs.length) : xs.take (k + 1) = xs.take k ++ [nth xs k] := by
  rw [List.take_add_one, List.getElem?_eq_getElem h]; simp [nth, List.getElem?_eq_getElem h]

theorem or64 (m x : Int) (h0 : 0 ≤ m) (h1 : m < 16777216) (h2 : 0 ≤ x) (h3 : x ≤ 255) : bits .or .i64 (m * 256) x = m * 256 + x := by
  obtain ⟨M, rfl⟩ : ∃ M : Nat, m = M := ⟨m.toNat, by omega⟩
  obtain ⟨X, rfl⟩ : ∃ X : Nat, x = X := ⟨x.toNat, by omega⟩
  have e : bits .or .i64 ((M : Int) * 256) (X : Int) = IntKind.i64.wrap (((BitVec.ofInt 64 ((M : Int) * 256) ||| BitVec.ofInt 64 (X : Int)).toNat : Nat) : Int) := rfl
  have e1 := ofInt_u64 (M * 256) (by omega)
  have e2 := ofInt_u64 X (by omega)
  have e3 : ((M : Int) * 256) = ((M * 256 : Nat) : Int) := by omega
  have e4 : M * 256 ||| X = M * 256 + X := by
    have := Nat.two_pow_add_eq_or_of_lt (i := 8) (b := X) (by omega) M
    rw [Nat.mul_comm]
    exact this.symm
  rw [e, e3, BitVec.toNat_or, e1, e2, e4, IntKind.wrap_i64]
  omega
theorem val_eq {k : IntKind} {a b : Int} (h : a = b) : Value.int k a = .int k b := by rw [h]
theorem tkB_len (n : Nat) (xs : List Int) : (tkB n xs).length ≤ n := by unfold tkB; split; simp; rw [List.length_take]; omega
theorem tkB_range {n : Nat} {xs : List Int} (h : ∀ x ∈ xs, 0 ≤ x ∧ x ≤ 255) : ∀ x ∈ tkB n xs, 0 ≤ x ∧ x ≤ 255 := by
  unfold tkB; split
  · intro x hx; cases hx
  · exact fun x hx => h x (List.mem_of_mem_take hx)
theorem tkR_range {n : Nat} {xs : List Int} (h : ∀ x ∈ xs, 0 ≤ x ∧ x ≤ 255) : ∀ x ∈ tkR n xs, 0 ≤ x ∧ x ≤ 255 := by
  unfold tkR; split
  · intro x hx; cases hx
  · exact fun x hx => h x (List.mem_of_mem_drop hx)
theorem tkR_len (n : Nat) (xs : List Int) : (tkR n xs).length ≤ xs.length := by unfold tkR; split; simp; rw [List.length_drop]; omega

/-- A text that is taken: its length first. -/
def txtN (n : Nat) (xs : List Int) : Nat := (beN (tkB n xs)).toNat
def txtB (n : Nat) (xs : List Int) : ByteArray := strOfNums (tkB (txtN n xs) (tkR n xs))
def txtR (n : Nat) (xs : List Int) : List Int := tkR (txtN n xs) (tkR n xs)
def txtS (n : Nat) (xs : List Int) (sh : Bool) : Bool := tkS (txtN n xs) (tkR n xs) (tkS n xs sh)
theorem txtN_le (n : Nat) (xs : List Int) (hn : n ≤ 2) (hr : ∀ x ∈ xs, 0 ≤ x ∧ x ≤ 255) : txtN n xs ≤ 65535 ∧ beN (tkB n xs) = (txtN n xs : Int) := by
  have h1 := beN_range _ (tkB_range (n := n) hr)
  have h2 := tkB_len n xs
  have h3 : (256 : Int) ^ (tkB n xs).length ≤ 65536 := by
    generalize (tkB n xs).length = q at h2
    have h3 : q ≤ 2 := by omega
    match q, h3 with
    | 0, _ => decide
    | 1, _ => decide
    | 2, _ => decide
  unfold txtN
  omega
theorem run_convert_zero {P : Program} (w : World) (src e : TypeId) (hs : P.underlying src = some (.slice e)) (he : P.underlying e = some (.int .u8)) (a : Option Addr) (c : Nat) (dst : TypeId) (hd : P.underlying dst = some .string) :
    (convert src dst (.slice a 0 c)).run P w = .ok (.string (strOfNums [])) w := by
  cases a with
  | none => rw [run_convert_bytes_nil w src e hs he 0 c dst hd]; rfl
  | some ad =>
    unfold convert
    simp [run_underlying hs, run_underlying he, run_underlying hd]
    rfl
theorem run_convert_row {P : Program} (w : World) (B : Nat) (src e dst : TypeId) (hs : P.underlying src = some (.slice e)) (he : P.underlying e = some (.int .u8)) (hd : P.underlying dst = some .string)
    (v : Value) (zs : List Int) (h : RowU B w v zs) : (convert src dst v).run P w = .ok (.string (strOfNums zs)) w := by
  obtain ⟨a, cap, rfl, hc, h, _⟩ := h
  rcases h with rfl | ⟨b, off, rfl, hb, h⟩
  · exact run_convert_zero w src e hs he a cap dst hd
  · refine run_convert_bytes_arg w src e hs he b off zs.length cap zs rfl (fun i hi => ?_) dst hd
    exact h i hi

end Go.Proofs.YtiflfcpoajijaaaDoor.Rr

/- A request is taken off the wire. -/
namespace Go.Proofs.YtiflfcpoajijaaaDoor.Rr
open Go.RowKit Go.Proofs.YtiflfcpoajijaaaDoor.Sl Go.Proofs.YtiflfcpoajijaaaDoor.By Go.Proofs.YtiflfcpoajijaaaDoor.Ap Go.Proofs.YtiflfcpoajijaaaDoor.Rq

theorem blk_cell {w : World} {b : Nat} {cs : Array Value} {t : TypeId} (h : w.heap[b]? = some (.cells cs t (0, 0))) (i : Nat) {x : Value} (hx : cs[i]? = some x) : w.cell? ⟨b, i, none⟩ = some x ∧ w.frozen? ⟨b, i, none⟩ = false :=
  ⟨(Joins.cell_of_block h i).trans hx, Joins.unfrozen_of_block h i⟩
theorem blk_set {w : World} {b : Nat} {cs : Array Value} {t : TypeId} (h : w.heap[b]? = some (.cells cs t (0, 0))) (i : Nat) (x : Value) : (w.setCell ⟨b, i, none⟩ x).heap[b]? = some (.cells (cs.setIfInBounds i x) t (0, 0)) := Joins.block_setCell h x
theorem blk_far {w : World} {b k : Nat} (hk : k ≠ b) (i : Nat) (x : Value) : (w.setCell ⟨b, i, none⟩ x).heap[k]? = w.heap[k]? := Below.heap_setCell w ⟨b, i, none⟩ x k hk
theorem blk_new (w : World) (cs : Array Value) (t : TypeId) : (w.alloc (.cells cs t)).heap[w.heap.size]? = some (.cells cs t (0, 0)) := heap_alloc_new w _
theorem blk_kept {w w' : World} {p b : Nat} {o : Obj} (h : w.heap[b]? = some o) (hg : w.grownBy w' (some p)) (hb : b ≠ p) : w'.heap[b]? = some o :=
  (hg.block b (Array.getElem?_eq_some_iff.1 h).1 (by simpa using hb)).trans h

/-- From w to w' nothing that was there was written but block p. -/
theorem grown_new {w w' : World} {p b : Nat} (h : w.grownBy w' (some p)) (hb : w.heap.size ≤ b) (i : Nat) (x : Value) : w.grownBy (w'.setCell ⟨b, i, none⟩ x) (some p) :=
  ⟨h.os, h.tape, h.output, by simpa using h.size, fun k hk hn => (blk_far (by omega) i x).trans (h.block k hk hn)⟩
theorem grown_alloc {w w' : World} {r : Option Nat} (h : w.grownBy w' r) (o : Obj) : w.grownBy (w'.alloc o) r :=
  ⟨h.os, h.tape, h.output, Nat.le_trans h.size (by simp), fun k hk hn => (Below.heap_alloc w' o k (Nat.lt_of_lt_of_le hk h.size)).trans (h.block k hk hn)⟩

theorem txtR_range {n : Nat} {xs : List Int} (h : ∀ x ∈ xs, 0 ≤ x ∧ x ≤ 255) : ∀ x ∈ txtR n xs, 0 ≤ x ∧ x ≤ 255 := tkR_range (tkR_range h)
theorem txtR_len (n : Nat) (xs : List Int) : (txtR n xs).length ≤ xs.length := Nat.le_trans (tkR_len _ _) (tkR_len _ _)
/-- The request that bytes tell: its fields, what is left, whether they fell short. -/
def rqC (xs : List Int) : Int := beN (tkB 1 xs)
def rqS (xs : List Int) : Int := beN (tkB 2 (tkR 1 xs))
def rqK (xs : List Int) : Int := beN (tkB 1 (tkR 2 (tkR 1 xs)))
def rqL (xs : List Int) : Int := beN (tkB 2 (tkR 1 (tkR 2 (tkR 1 xs))))
def rqT (xs : List Int) : List Int := tkR 2 (tkR 1 (tkR 2 (tkR 1 xs)))
def rqN (xs : List Int) : ByteArray := txtB 1 (rqT xs)
def rqRest (xs : List Int) : List Int := txtR 1 (rqT xs)
def rqSh (xs : List Int) (sh : Bool) : Bool := txtS 1 (rqT xs) (tkS 2 (tkR 1 (tkR 2 (tkR 1 xs))) (tkS 1 (tkR 2 (tkR 1 xs)) (tkS 2 (tkR 1 xs) (tkS 1 xs sh))))
def zreq : Array Value := #[.int .i64 0, .int .i64 0, .int .i64 0, .int .i64 0, .string ⟨#[]⟩]

/-- The message that bytes tell. -/
def mg3 (xs : List Int) : List Int := tkR 1 (tkR 1 (tkR 1 (tkR 1 xs)))
def mgDg (xs : List Int) : ByteArray := txtB 1 (mg3 xs)
def mgBd (xs : List Int) : ByteArray := txtB 2 (txtR 1 (mg3 xs))
def mgMc (xs : List Int) : ByteArray := strOfNums (tkB 8 (txtR 2 (txtR 1 (mg3 xs))))
def mgRest (xs : List Int) : List Int := tkR 8 (txtR 2 (txtR 1 (mg3 xs)))
def mgSh (xs : List Int) (sh : Bool) : Bool := tkS 8 (txtR 2 (txtR 1 (mg3 xs))) (txtS 2 (txtR 1 (mg3 xs)) (txtS 1 (mg3 xs) (tkS 1 (tkR 1 (tkR 1 (tkR 1 xs))) (tkS 1 (tkR 1 (tkR 1 xs)) (tkS 1 (tkR 1 xs) (tkS 1 xs sh))))))
def zmsg : Array Value := #[.int .i64 0, .int .i64 0, .int .i64 0, .int .i64 0, .string ⟨#[]⟩, .string ⟨#[]⟩, .string ⟨#[]⟩]
/-- The reading that bytes tell. -/
def zrdg : Array Value := #[.int .i64 0, .int .i64 0, .string ⟨#[]⟩]

end Go.Proofs.YtiflfcpoajijaaaDoor.Rr

/- Texts in a slice: read, copied, compared. -/
namespace Go.Proofs.YtiflfcpoajijaaaDoor.Ty
open Go.RowKit Go.Proofs.YtiflfcpoajijaaaDoor.Sl Go.Proofs.YtiflfcpoajijaaaDoor.By Go.Proofs.YtiflfcpoajijaaaDoor.Ap Go.Proofs.YtiflfcpoajijaaaDoor.Rq Go.Proofs.YtiflfcpoajijaaaDoor.Rr

def tnth (ts : List ByteArray) (i : Nat) : ByteArray := ts.getD i ⟨#[]⟩
/-- The slice v holds the texts ts. -/
def RowT (w : World) (v : Value) (ts : List ByteArray) : Prop :=
  ∃ a cap, v = .slice a ts.length cap ∧ (ts = [] ∨ ∃ b off, a = some ⟨b, off, none⟩ ∧ ts.length ≤ cap ∧ b < w.heap.size ∧ ∀ i, i < ts.length → w.cell? ⟨b, off + i, none⟩ = some (.string (tnth ts i)))
theorem RowT.below {w w' : World} {v : Value} {ts : List ByteArray} (h : RowT w v ts) (hb : Below w.heap.size w w') : RowT w' v ts := by
  obtain ⟨a, cap, rfl, h⟩ := h
  refine ⟨a, cap, rfl, ?_⟩
  rcases h with h | ⟨b, off, rfl, hc, hlt, h⟩
  · exact .inl h
  · exact .inr ⟨b, off, rfl, hc, Nat.lt_of_lt_of_le hlt hb.size, fun i hi => (hb.cell (p := ⟨b, off + i, none⟩) hlt).trans (h i hi)⟩
/-- Texts whose sizes add up. -/
def szT (ts : List ByteArray) (k : Nat) : Nat := ((ts.take k).map ByteArray.size).sum
theorem szT_succ (ts : List ByteArray) (k : Nat) (h : k < ts.length) : szT ts (k + 1) = szT ts k + (tnth ts k).size := by
  unfold szT tnth
  rw [List.take_add_one, List.getElem?_eq_getElem h, Option.toList_some, List.map_append, List.sum_append, List.getD_eq_getElem?_getD, List.getElem?_eq_getElem h]
  simp only [List.map_cons, List.map_nil, List.sum_cons, List.sum_nil, Option.getD_some, Nat.add_zero]
theorem szT_mono (ts : List ByteArray) {a b : Nat} (h : a ≤ b) : szT ts a ≤ szT ts b := by
  induction b with
  | zero => have : a = 0 := by omega
            subst this; exact Nat.le_refl _
  | succ b ih =>
    by_cases e : a = b + 1
    · subst e; exact Nat.le_refl _
    · have := ih (by omega)
      by_cases hb : b < ts.length
      · rw [szT_succ ts b hb]; omega
      · have e1 : szT ts (b + 1) = szT ts b := by unfold szT; rw [List.take_of_length_le (by omega), List.take_of_length_le (by omega)]
        rw [e1]; exact this
/-- The budget of a list of texts. -/
def big (ts : List ByteArray) : Bool := decide (1048576 < ts.length + szT ts ts.length)

theorem info9 : (Tryd.prog.info? 9).map (fun i => (i.zero, i.size, i.bytes)) = some (some (.string ⟨#[]⟩), 1, 16) := by kernel_rfl
/-- A slice of texts in a block of its own, behind B. -/
def OwnT (w : World) (B : Nat) (v : Value) (ts : List ByteArray) : Prop :=
  ∃ g A, v = .slice (some ⟨g, 0, none⟩) ts.length ts.length ∧ B ≤ g ∧ w.heap[g]? = some (.cells A 9 (0, 0)) ∧ A.size = ts.length ∧ ∀ j, j < ts.length → A[j]? = some (.string (tnth ts j))
theorem OwnT.row {w : World} {B : Nat} {v : Value} {ts : List ByteArray} (h : OwnT w B v ts) : RowT w v ts := by
  obtain ⟨g, A, rfl, hB, hg, hs, hA⟩ := h
  refine ⟨_, _, rfl, .inr ⟨g, 0, rfl, Nat.le_refl _, (Array.getElem?_eq_some_iff.1 hg).1, fun i hi => ?_⟩⟩
  rw [Nat.zero_add, Joins.cell_of_block hg i]
  exact hA i hi
theorem OwnT.below {w w' : World} {B : Nat} {v : Value} {ts : List ByteArray} (h : OwnT w B v ts) (hb : Below w.heap.size w w') : OwnT w' B v ts := by
  obtain ⟨g, A, rfl, hB, hg, hs, hA⟩ := h
  exact ⟨g, A, rfl, hB, (hb.block g (Array.getElem?_eq_some_iff.1 hg).1).trans hg, hs, hA⟩

def Copied (ts : List ByteArray) (k : Nat) (A : Array Value) : Prop := A.size = ts.length ∧ ∀ j, j < k → A[j]? = some (.string (tnth ts j))
end Go.Proofs.YtiflfcpoajijaaaDoor.Ty

/- The specification's source of choices. -/
namespace Go.Proofs.YtiflfcpoajijaaaDoor.Gn
open Go.RowKit Go.Proofs.YtiflfcpoajijaaaDoor.Sl Go.Proofs.YtiflfcpoajijaaaDoor.By Go.Proofs.YtiflfcpoajijaaaDoor.Ap Go.Proofs.YtiflfcpoajijaaaDoor.Rq Go.Proofs.YtiflfcpoajijaaaDoor.Rr Go.Proofs.YtiflfcpoajijaaaDoor.Ty

/-- A source in block p: its code, where it stands (at most K), its seed. -/
def Src (B : Nat) (w : World) (p : Nat) (xs : List Int) (K : Nat) : Prop :=
  ∃ (v : Value) (at_ : Nat) (sd : Int), w.heap[p]? = some (.cells #[v, .int .i64 at_, .int .i64 sd] 65 (0, 0)) ∧ RowU B w v xs ∧ at_ ≤ K ∧ 0 ≤ sd ∧ sd < 2147483648
theorem Src.lt {B p K : Nat} {w : World} {xs : List Int} (h : Src B w p xs K) : p < w.heap.size := by
  obtain ⟨v, a, s, h1, _⟩ := h
  exact (Array.getElem?_eq_some_iff.1 h1).1
theorem Src.kept {B p K : Nat} {w w' : World} {xs : List Int} (h : Src B w p xs K) (hp : w'.heap[p]? = w.heap[p]?) (hb : ∀ k, k < B → w'.heap[k]? = w.heap[k]?) : Src B w' p xs K := by
  obtain ⟨v, a, s, h1, h2, h3⟩ := h
  exact ⟨v, a, s, hp.trans h1, h2.kept hb, h3⟩

theorem src_end {B p K at_ : Nat} {w : World} {xs : List Int} {v : Value} {sd : Int} (h : w.heap[p]? = some (.cells #[v, .int .i64 ((at_ : Int) + 1), .int .i64 sd] 65 (0, 0))) (hu : RowU B w v xs) (ha : at_ ≤ K) (h0 : 0 ≤ sd) (h1 : sd < 2147483648) : Src B w p xs (K + 1) :=
  ⟨v, at_ + 1, sd, by rw [show (((at_ + 1 : Nat)) : Int) = (at_ : Int) + 1 by omega]; exact h, hu, by omega, h0, h1⟩
set_option maxRecDepth 100000 in
set_option maxHeartbeats 1600000 in
theorem byte_any (p B K : Nat) (xs : List Int) (w : World) (h : Src B w p xs K) (hB : B ≤ p) (hK : K ≤ 1000000000) (_hx : xs.length ≤ 1048600) :
    Calls Tryd.prog 30 #[.pointer (some ⟨p, 0, none⟩)] w fun e w' => ∃ r : Int, e = .returned (.int .i64 r) ∧ 0 ≤ r ∧ r ≤ 255 ∧ Src B w' p xs (K + 1) ∧ w.grownBy w' (some p) := by
  have hp := h.lt
  obtain ⟨v, at_, sd, h1, hu, hat, hs0, hs1⟩ := h
  obtain ⟨c0, f0⟩ := blk_cell h1 0 (x := v) rfl
  obtain ⟨c1, f1⟩ := blk_cell h1 1 (x := .int .i64 at_) rfl
  obtain ⟨c2, f2⟩ := blk_cell h1 2 (x := .int .i64 sd) rfl
  have HU : Hid (RowU B w v xs) := hu
  obtain ⟨a, cap, rfl, hcap, hc, hr⟩ := hu
  have H1 : Hid (w.heap[p]? = some (.cells #[.slice a xs.length cap, .int .i64 at_, .int .i64 sd] 65 (0, 0))) := h1
  have HR : Hid (∀ x ∈ xs, 0 ≤ x ∧ x ≤ 255) := hr
  clear h1 hr
  by_cases hlt : at_ < xs.length
  · have hlt' : (at_ : Int) + 1 ≤ (xs.length : Int) := by omega
    rcases hc with hc | ⟨b, off, rfl, hb, hcell⟩
    · exact absurd hlt (by rw [hc]; simp)
    have hc1 := hcell at_ hlt
    have hne : b ≠ p := by omega
    have hx1 := range_at HR.out at_
    clear hcell
    go_enter Tryd.func30, Tryd.ntmps30
    go_wp2_with fail
    go_quiet (fail)
    go_wp2_with fail
    have H2 : ((w.setCell ⟨p, 1, none⟩ (.int .i64 ((at_ : Int) + 1))).drewN nq).heap[p]? = some (.cells #[.slice (some ⟨b, off, none⟩) xs.length cap, .int .i64 ((at_ : Int) + 1), .int .i64 sd] 65 (0, 0)) := blk_set H1.out 1 (.int .i64 ((at_ : Int) + 1))
    have G2 : w.grownBy ((w.setCell ⟨p, 1, none⟩ (.int .i64 ((at_ : Int) + 1))).drewN nq) (some p) := by
      have g := grown_set (w := w) (p := p) 1 (.int .i64 ((at_ : Int) + 1))
      exact ⟨g.os, g.tape, g.output, g.size, g.block⟩
    have X2 : ((w.setCell ⟨p, 1, none⟩ (.int .i64 ((at_ : Int) + 1))).drewN nq).cell? ⟨b, off + at_, none⟩ = some (.int .u8 (nth xs at_)) := (World.cell?_of_block (a := ⟨b, off + at_, none⟩) (below_kept G2 hB hp b hb)).trans hc1
    generalize (w.setCell ⟨p, 1, none⟩ (.int .i64 ((at_ : Int) + 1))).drewN nq = w2 at H2 G2 X2 ⊢
    clear c0 c1 c2 f0 f1 f2 hc1
    obtain ⟨c0, f0⟩ := blk_cell H2 0 (x := .slice (some ⟨b, off, none⟩) xs.length cap) rfl
    obtain ⟨c1, f1⟩ := blk_cell H2 1 (x := .int .i64 ((at_ : Int) + 1)) rfl
    obtain ⟨c2, f2⟩ := blk_cell H2 2 (x := .int .i64 sd) rfl
    have HH2 : Hid (w2.heap[p]? = some (.cells #[.slice (some ⟨b, off, none⟩) xs.length cap, .int .i64 ((at_ : Int) + 1), .int .i64 sd] 65 (0, 0))) := H2
    clear H2
    refine Qt.region_quiet_tail 23 (by kernel_rfl) (by kernel_rfl) ?_
    simp only [List.take_succ_cons, List.take_zero, List.drop_succ_cons, List.drop_zero]
    repeat (go_big_quiet_step (fail))
    refine wpQuiet_nil ?_
    go_wp2_with fail
    go_quiet (fail)
    go_wp2_with fail
    go_ret
    refine ⟨nth xs at_, rfl, hx1.1, hx1.2, src_end (at_ := at_) (sd := (sd * 31 + nth xs at_ + 7) % 2147483648) ?_ (HU.out.kept ?_) hat (by omega) (by omega), ?_⟩
    · exact blk_set HH2.out 2 (.int .i64 ((sd * 31 + nth xs at_ + 7) % 2147483648))
    · exact fun k hk => (blk_far (w := w2) (b := p) (by omega) 2 (.int .i64 ((sd * 31 + nth xs at_ + 7) % 2147483648))).trans (below_kept G2 hB hp k hk)
    · have g := grown_trans G2 (grown_set (w := w2) (p := p) 2 (.int .i64 ((sd * 31 + nth xs at_ + 7) % 2147483648)))
      exact ⟨g.os, g.tape, g.output, g.size, g.block⟩
  · have hlt' : ¬ (at_ : Int) + 1 ≤ (xs.length : Int) := by omega
    clear hc
    by_cases h3 : 3000 < at_ + 1
    · have h3' : (3000 : Int) < (at_ : Int) + 1 := by omega
      go_enter Tryd.func30, Tryd.ntmps30
      go_wp2_with fail
      go_quiet (fail)
      go_wp2_with fail
      go_ret
      refine ⟨0, rfl, by decide, by decide, src_end (at_ := at_) (sd := sd) ?_ (HU.out.kept ?_) hat hs0 hs1, ?_⟩
      · exact blk_set H1.out 1 (.int .i64 ((at_ : Int) + 1))
      · exact fun k hk => blk_far (w := w) (b := p) (by omega) 1 (.int .i64 ((at_ : Int) + 1))
      · have g := grown_set (w := w) (p := p) 1 (.int .i64 ((at_ : Int) + 1))
        exact ⟨g.os, g.tape, g.output, g.size, g.block⟩
    · have h3' : ¬ (3000 : Int) < (at_ : Int) + 1 := by omega
      go_enter Tryd.func30, Tryd.ntmps30
      go_wp2_with fail
      go_quiet (fail)
      go_wp2_with fail
      go_ret
      refine ⟨(sd * 1103515245 + 12345) % 2147483648 / 65536 % 256, rfl, by omega, by omega, src_end (at_ := at_) (sd := (sd * 1103515245 + 12345) % 2147483648) ?_ (HU.out.kept ?_) hat (by omega) (by omega), ?_⟩
      · exact blk_set (blk_set H1.out 1 (.int .i64 ((at_ : Int) + 1))) 2 (.int .i64 ((sd * 1103515245 + 12345) % 2147483648))
      · exact fun k hk => (blk_far (w := w.setCell ⟨p, 1, none⟩ (.int .i64 ((at_ : Int) + 1))) (b := p) (by omega) 2 (.int .i64 ((sd * 1103515245 + 12345) % 2147483648))).trans (blk_far (w := w) (b := p) (by omega) 1 (.int .i64 ((at_ : Int) + 1)))
      · have g := grown_trans (grown_set (w := w) (p := p) 1 (.int .i64 ((at_ : Int) + 1))) (grown_set (w := w.setCell ⟨p, 1, none⟩ (.int .i64 ((at_ : Int) + 1))) (p := p) 2 (.int .i64 ((sd * 1103515245 + 12345) % 2147483648)))
        exact ⟨g.os, g.tape, g.output, g.size, g.block⟩

set_option maxHeartbeats 800000 in
/-- next of at most 256. -/
theorem next_any (n p B K : Nat) (xs : List Int) (w : World) (h : Src B w p xs K) (hB : B ≤ p) (hK : K ≤ 1000000000) (hx : xs.length ≤ 1048600) (hn : 0 < n) (hn2 : n ≤ 256) :
    Calls Tryd.prog 22 #[.pointer (some ⟨p, 0, none⟩), .int .i64 n] w fun e w' => ∃ r : Nat, e = .returned (.int .i64 r) ∧ r < n ∧ Src B w' p xs (K + 1) ∧ w.grownBy w' (some p) := by
  by_cases h1 : n ≤ 1
  · have h1' : (n : Int) ≤ 1 := by omega
    obtain ⟨v, a, s, q1, q2, q3, q4⟩ := h
    have HS : Hid (Src B w p xs (K + 1)) := ⟨v, a, s, q1, q2, by omega, q4⟩
    clear q1 q2 q3 q4
    go_enter Tryd.func22, Tryd.ntmps22
    go_wp2_with fail
    go_ret
    exact ⟨0, rfl, hn, HS.out, grown_refl _ _⟩
  · have h1' : ¬ (n : Int) ≤ 1 := by omega
    have h2' : (n : Int) ≤ 256 := by omega
    go_enter Tryd.func22, Tryd.ntmps22
    go_wp2_with fail
    refine (byte_any p B K xs _ h hB hK hx).mono ?_
    rintro e w1 ⟨r, rfl, r0, r1, s1, g1⟩
    obtain ⟨m, rfl⟩ : ∃ m : Nat, r = m := ⟨r.toNat, by omega⟩
    have hnz : ¬ (n : Int) = 0 := by omega
    have HSS : Hid (Src B w1 p xs (K + 1)) := s1
    clear s1 h
    go_wp2_with fail
    go_ret
    exact ⟨m % n, rfl, Nat.mod_lt _ hn, HSS.out, g1⟩
theorem Src.alloc {B p K : Nat} {w : World} {xs : List Int} (h : Src B w p xs K) (hB : B ≤ p) (o : Obj) : Src B (w.alloc o) p xs K :=
  h.kept (Below.heap_alloc w o p h.lt) (fun k hk => Below.heap_alloc w o k (by have := h.lt; omega))
set_option maxHeartbeats 800000 in
theorem pick_any (b n p B K : Nat) (A : Array Value) (ts : List ByteArray) (xs : List Int) (w : World) (h : Src B w p xs K) (hB : B ≤ p) (hK : K ≤ 1000000000) (hx : xs.length ≤ 1048600) (hn : 0 < n) (hn2 : n ≤ 256) (hb : w.heap[b]? = some (.cells A 9 (0, 0))) (hbp : b ≠ p) (hA : ∀ j, j < n → A[j]? = some (.string (tnth ts j))) :
    Calls Tryd.prog 23 #[.pointer (some ⟨p, 0, none⟩), .slice (some ⟨b, 0, none⟩) n n] w fun e w' => ∃ r : Nat, e = .returned (.string (tnth ts r)) ∧ r < n ∧ Src B w' p xs (K + 1) ∧ w.grownBy w' (some p) := by
  have h0 : ¬ (n : Int) = 0 := by omega
  have h0' : ((n : Int) == 0) = false := by simp; omega
  have HB : Hid (w.heap[b]? = some (.cells A 9 (0, 0))) := hb
  have HA : Hid (∀ j, j < n → A[j]? = some (.string (tnth ts j))) := hA
  clear hb hA
  go_enter Tryd.func23, Tryd.ntmps23
  go_wp2_with fail
  refine (next_any n p B K xs _ h hB hK hx hn hn2).mono ?_
  rintro e w1 ⟨r, rfl, hr, s1, g1⟩
  have HS : Hid (Src B w1 p xs (K + 1)) := s1
  have c1 := (blk_cell (blk_kept HB.out g1 hbp) r (HA.out r hr)).1
  have hr' : (r : Int) < (n : Int) := by omega
  clear s1 h
  go_wp2_with fail
  go_ret
  exact ⟨r, rfl, hr, HS.out, g1⟩

set_option maxHeartbeats 400000 in
theorem source_any (v : Value) (xs : List Int) (w : World) (h : RowB w v xs) (hx : xs.length ≤ 1048600) :
    Calls Tryd.prog 13 #[v] w fun e w' => e = .returned (.pointer (some ⟨w.heap.size, 0, none⟩)) ∧ Src w.heap.size w' w.heap.size xs 0 ∧ Below w.heap.size w w' := by
  have HU : Hid (RowU w.heap.size w v xs) := RowU.of h
  obtain ⟨a, cap, rfl, _, _⟩ := h
  go_enter Tryd.func13, Tryd.ntmps13
  go_wp2_with fail
  go_ret
  refine ⟨rfl, ⟨_, 0, (xs.length : Int) % 1000, blk_new _ _ _, HU.out.kept (fun k hk => Below.heap_alloc _ _ _ hk), Nat.le_refl _, by omega, by omega⟩, (Below.refl _ _).alloc (Nat.le_refl _) _⟩

end Go.Proofs.YtiflfcpoajijaaaDoor.Gn

/- Requests' bytes: both RequestBytes functions. -/
namespace Go.Proofs.YtiflfcpoajijaaaDoor.Rp
open Go.RowKit Go.Proofs.YtiflfcpoajijaaaDoor.Sl Go.Proofs.YtiflfcpoajijaaaDoor.By Go.Proofs.YtiflfcpoajijaaaDoor.Rq Go.Proofs.YtiflfcpoajijaaaDoor.Ap Go.Proofs.YtiflfcpoajijaaaDoor.Pu

/-- A request's bytes. -/
def reqBs (c st k l : Int) (n : ByteArray) : List Int := nums c 1 1 ++ (nums st 2 2 ++ (nums k 1 1 ++ (nums l 2 2 ++ (nums (n.size : Int) 1 1 ++ bys n))))
theorem reqBs_length (c st k l : Int) (n : ByteArray) : (reqBs c st k l n).length = 7 + n.size := by unfold reqBs; simp only [List.length_append, nums_length, bys_length]; omega
theorem reqBs_range (c st k l : Int) (n : ByteArray) : ∀ z ∈ reqBs c st k l n, 0 ≤ z ∧ z ≤ 255 := by
  intro z hz
  unfold reqBs at hz
  simp only [List.mem_append] at hz
  rcases hz with h | h | h | h | h | h
  all_goals first | exact nums_range _ _ _ z h | exact bys_range _ z h

theorem kept_cell {w w1 : World} {v v1 : Value} (h : Kp w w1 v v1) {b : Nat} (hb : b < w.heap.size) (hn : some b ≠ v.ownBlock) (i : Nat) : w1.cell? ⟨b, i, none⟩ = w.cell? ⟨b, i, none⟩ := World.cell?_of_block (h.block b hb hn)
theorem req_kept {w w1 : World} {v v1 : Value} {c st k l : Int} {n : ByteArray} {t : TypeId} (h : Kp (w.alloc (.cells #[.int .i64 c, .int .i64 st, .int .i64 k, .int .i64 l, .string n] t)) w1 v v1) (hn : some w.heap.size ≠ v.ownBlock) :
    w1.cell? ⟨w.heap.size, 0, none⟩ = some (.int .i64 c) ∧ w1.cell? ⟨w.heap.size, 1, none⟩ = some (.int .i64 st) ∧ w1.cell? ⟨w.heap.size, 2, none⟩ = some (.int .i64 k) ∧ w1.cell? ⟨w.heap.size, 3, none⟩ = some (.int .i64 l) ∧ w1.cell? ⟨w.heap.size, 4, none⟩ = some (.string n) := by
  have hs : w.heap.size < (w.alloc (.cells #[.int .i64 c, .int .i64 st, .int .i64 k, .int .i64 l, .string n] t)).heap.size := by simp
  have h' := fun i => (kept_cell h hs hn i).trans (World.cell?_alloc_at _ _ _ _ rfl)
  exact ⟨h' 0, h' 1, h' 2, h' 3, h' 4⟩
theorem own_away {e : TypeId} {w : World} {B : Nat} {v : Value} {zs : List Int} (h : OwnB e w B v zs) : some w.heap.size ≠ v.ownBlock := by
  intro hn
  unfold OwnB at h
  have := (h.lt _ hn.symm).2
  omega

theorem ret_tup {v : Value} {a b : Int} (h : a = b) : Ending.returned (.tuple #[v, .int .i64 a]) = .returned (.tuple #[v, .int .i64 b]) := by rw [h]
/-- What RequestBytes answers: the bytes, or none. -/
def reqOut (c st k l : Int) (n : ByteArray) : List Int := if reqB c st k l n then reqBs c st k l n else []
def reqCode (c st k l : Int) (n : ByteArray) : Int := if reqB c st k l n then 0 else 1
theorem req_small {c st k l : Int} {n : ByteArray} (h : reqB c st k l n = true) : n.size ≤ 12 := by
  unfold reqB opB at h
  simp at h
  exact h.2.2.2.1

end Go.Proofs.YtiflfcpoajijaaaDoor.Rp

/- Readings in a slice: read, measured, copied, compared. -/
namespace Go.Proofs.YtiflfcpoajijaaaDoor.Gr
open Go.RowKit Go.Proofs.YtiflfcpoajijaaaDoor.Sl Go.Proofs.YtiflfcpoajijaaaDoor.Ap Go.Proofs.YtiflfcpoajijaaaDoor.Rg

structure Rd where
  f : Int
  x : Int
  m : ByteArray
instance : Inhabited Rd := ⟨⟨0, 0, ⟨#[]⟩⟩⟩
def E1 (w : World) (b o : Nat) (x : Rd) : Prop := w.cell? ⟨b, o, none⟩ = some (.int .i64 x.f) ∧ w.cell? ⟨b, o + 1, none⟩ = some (.int .i64 x.x) ∧ w.cell? ⟨b, o + 2, none⟩ = some (.string x.m)
/-- The slice v holds the things xs. -/
def Row (w : World) (v : Value) (xs : List Rd) : Prop := RowG 3 E1 w v xs
def oneV (x : Rd) : Value := .agg #[.int .i64 x.f, .int .i64 x.x, .string x.m]
theorem stays1 : Stays E1 := fun _ _ b _ _ hb hlt ⟨h0, h1, h2⟩ => ⟨(hb.cell (p := ⟨b, _, none⟩) hlt).trans h0, (hb.cell (p := ⟨b, _, none⟩) hlt).trans h1, (hb.cell (p := ⟨b, _, none⟩) hlt).trans h2⟩
theorem Row.below {w w' : World} {v : Value} {xs : List Rd} (h : Row w v xs) (hb : Below w.heap.size w w') : Row w' v xs := RowG.below stays1 h hb
/-- Its texts are no longer than n. -/
def Tz (n : Nat) (x : Rd) : Prop := x.m.size ≤ n
end Go.Proofs.YtiflfcpoajijaaaDoor.Gr
namespace Go.Proofs.YtiflfcpoajijaaaDoor.Op
open Go.ChangeShapes Go.WideShapes Go.ChangeAt Go.RowKit Go.Deep Go.Proofs.YtiflfcpoajijaaaDoor.Rg Go.Proofs.YtiflfcpoajijaaaDoor.Gr
end Go.Proofs.YtiflfcpoajijaaaDoor.Op

/- Batches: what is right, of the program and of the specification. -/
namespace Go.Proofs.YtiflfcpoajijaaaDoor.Bo
open Go.RowKit Go.Proofs.YtiflfcpoajijaaaDoor.Rg Go.Proofs.YtiflfcpoajijaaaDoor.Gr Go.Proofs.YtiflfcpoajijaaaDoor.Rq

/-- A reading is right, of a node from least on; readings rise. -/
def r1 (least : Int) (x : Rd) : Bool := inB x.f least 6 && (inB x.x 0 1000000000 && ((x.m.size : Int) == 8))
def rOK : Int → List Rd → Bool
  | _, [] => true
  | least, x :: xs => r1 least x && rOK (x.f + 1) xs
/-- A request of noughts. -/
def zB (c st k l : Int) (n : ByteArray) : Bool := (c == 0) && ((st == 0) && ((k == 0) && ((l == 0) && (n.toList == (⟨#[]⟩ : ByteArray).toList))))
/-- A batch is right. -/
def bOK (nl : Bool) (c st k l : Int) (n : ByteArray) (rs : List Rd) : Bool := if nl then zB c st k l n && ((rs.length : Int) == 0) else reqB c st k l n && rOK 0 rs
def batV (nl : Bool) (c st k l : Int) (n : ByteArray) (vr : Value) : Value := .agg #[.bool nl, .int .i64 c, .int .i64 st, .int .i64 k, .int .i64 l, .string n, vr]
theorem drop_at {rs : List Rd} {k : Nat} {x : Rd} (h : rs[k]? = some x) : rs.drop k = x :: rs.drop (k + 1) := by
  obtain ⟨hk, rfl⟩ := List.getElem?_eq_some_iff.1 h
  exact List.drop_eq_getElem_cons hk
theorem rOK_step {rs : List Rd} {k : Nat} {x : Rd} {l : Int} (h : rs[k]? = some x) : rOK l (rs.drop k) = (r1 l x && rOK (x.f + 1) (rs.drop (k + 1))) := by rw [drop_at h]; rfl
theorem rOK_end {rs : List Rd} {l : Int} : rOK l (rs.drop rs.length) = true := by rw [List.drop_length]; rfl
theorem rOK_len : ∀ (rs : List Rd) (l : Int), 0 ≤ l → rOK l rs = true → l + rs.length ≤ 7 ∨ rs = []
  | [], _, _, _ => .inr rfl
  | x :: xs, l, hl, h => by
    unfold rOK at h
    rw [Bool.and_eq_true] at h
    obtain ⟨h1, h2⟩ := h
    have hx : l ≤ x.f ∧ x.f ≤ 6 := by unfold r1 inB at h1; simp only [Bool.and_eq_true, decide_eq_true_eq] at h1; exact h1.1
    rcases rOK_len xs (x.f + 1) (by omega) h2 with h3 | h3
    · left; simp only [List.length_cons]; omega
    · left; rw [h3]; simp; omega
theorem rOK_seven {rs : List Rd} (h : rOK 0 rs = true) : rs.length ≤ 7 := by
  rcases rOK_len rs 0 (by omega) h with h | h
  · omega
  · rw [h]; simp
theorem rOK_small : ∀ (rs : List Rd) (l : Int), rOK l rs = true → ∀ x ∈ rs, x.m.size = 8 ∧ x.f ≤ 6 ∧ 0 ≤ x.x ∧ x.x ≤ 1000000000
  | [], _, _, _, hx => by cases hx
  | y :: ys, l, h, x, hx => by
    unfold rOK at h
    rw [Bool.and_eq_true] at h
    rcases List.mem_cons.1 hx with rfl | hx
    · have h1 := h.1
      unfold r1 inB at h1
      simp only [Bool.and_eq_true, decide_eq_true_eq, beq_iff_eq] at h1
      omega
    · exact rOK_small ys _ h.2 x hx
theorem ret_b {a b : Bool} (h : a = b) : Ending.returned (.bool a) = .returned (.bool b) := by rw [h]
theorem with_any (x a b : Int) (w : World) : Calls Tryd.prog 12 #[.int .i64 x, .int .i64 a, .int .i64 b] w fun e w' => e = .returned (.bool (inB x a b)) ∧ w = w' := (within_any x a b w).mono fun _ _ ⟨h1, h2⟩ => ⟨h1, h2.symm⟩
end Go.Proofs.YtiflfcpoajijaaaDoor.Bo

/- Requests that the source draws. -/
namespace Go.Proofs.YtiflfcpoajijaaaDoor.Gn
open Go.RowKit Go.Proofs.YtiflfcpoajijaaaDoor.Sl Go.Proofs.YtiflfcpoajijaaaDoor.By Go.Proofs.YtiflfcpoajijaaaDoor.Ap Go.Proofs.YtiflfcpoajijaaaDoor.Rq Go.Proofs.YtiflfcpoajijaaaDoor.Rr Go.Proofs.YtiflfcpoajijaaaDoor.Ty

theorem Src.set {B p b K : Nat} {w : World} {xs : List Int} (h : Src B w p xs K) (hb : p ≠ b) (hB : B ≤ b) (i : Nat) (x : Value) : Src B (w.setCell ⟨b, i, none⟩ x) p xs K :=
  h.kept (blk_far hb i x) (fun k hk => blk_far (by omega) i x)
theorem req_ok {c st k l : Int} {n : ByteArray} (h1 : inB c 0 255 = true) (h2 : inB st 1 65535 = true) (h3 : leB k l = true) (h4 : opB n = true) : reqB c st k l n = true := by
  unfold reqB; rw [h1, h2, h3, h4]; rfl
theorem Src.le {B p K K' : Nat} {w : World} {xs : List Int} (h : Src B w p xs K) (hk : K ≤ K') : Src B w p xs K' := by
  obtain ⟨v, a, s, q1, q2, q3, q4⟩ := h
  exact ⟨v, a, s, q1, q2, by omega, q4⟩
def lk3 : List ByteArray := [⟨#[97]⟩, ⟨#[98]⟩, ⟨#[108, 111, 99, 107]⟩]
theorem lk3_ok (r : Nat) (h : r < 3) : opB (tnth lk3 r) = true := by
  match r, h with
  | 0, _ => decide
  | 1, _ => decide
  | 2, _ => decide
set_option maxRecDepth 100000 in
set_option maxHeartbeats 1600000 in
theorem request_any (p B K : Nat) (xs : List Int) (w : World) (h : Src B w p xs K) (hB : B ≤ p) (hK : K ≤ 1000000) (hx : xs.length ≤ 1048600) :
    Calls Tryd.prog 14 #[.pointer (some ⟨p, 0, none⟩)] w fun e w' => ∃ (c st k l : Int) (n : ByteArray), e = .returned (.agg #[.int .i64 c, .int .i64 st, .int .i64 k, .int .i64 l, .string n]) ∧ reqB c st k l n = true ∧ Src B w' p xs (K + 5) ∧ w.grownBy w' (some p) := by
  have hp := h.lt
  have S0 : Hid (Src B (w.alloc (.cells zreq 24)) p xs K) := h.alloc hB _
  have G0 : Hid (w.grownBy (w.alloc (.cells zreq 24)) (some p)) := grown_alloc (grown_refl _ _) _
  have A0 : Hid ((w.alloc (.cells zreq 24)).heap[w.heap.size]? = some (.cells zreq 24 (0, 0))) := blk_new _ _ _
  clear h
  go_enter Tryd.func14, Tryd.ntmps14
  go_wp2_with fail
  refine (next_any 3 p B K xs _ S0.out hB (by omega) hx (by decide) (by decide)).mono ?_
  rintro e w1 ⟨c, rfl, hc, s1, g1⟩
  have S1 : Hid (Src B w1 p xs (K + 1)) := s1
  have G1 : Hid (w.grownBy w1 (some p)) := grown_trans G0.out g1
  have A1 : Hid (w1.heap[w.heap.size]? = some (.cells zreq 24 (0, 0))) := blk_kept A0.out g1 (by omega)
  clear s1 g1 S0 G0 A0
  go_wp2_with fail
  refine (next_any 5 p B (K + 1) xs _ S1.out hB (by omega) hx (by decide) (by decide)).mono ?_
  rintro e w2 ⟨st, rfl, hst, s2, g2⟩
  have S2 : Hid (Src B w2 p xs (K + 2)) := s2
  have G2 : Hid (w.grownBy w2 (some p)) := grown_trans G1.out g2
  have A2 : Hid (w2.heap[w.heap.size]? = some (.cells zreq 24 (0, 0))) := blk_kept A1.out g2 (by omega)
  clear s2 g2 S1 G1 A1
  go_wp2_with fail
  refine (next_any 4 p B (K + 2) xs _ S2.out hB (by omega) hx (by decide) (by decide)).mono ?_
  rintro e w3 ⟨k, rfl, hk, s3, g3⟩
  have S3 : Hid (Src B (w3.alloc (.cells #[.string ⟨#[97]⟩, .string ⟨#[98]⟩, .string ⟨#[108, 111, 99, 107]⟩] 9)) p xs (K + 3)) := s3.alloc hB _
  have G3 : Hid (w.grownBy (w3.alloc (.cells #[.string ⟨#[97]⟩, .string ⟨#[98]⟩, .string ⟨#[108, 111, 99, 107]⟩] 9)) (some p)) := grown_alloc (grown_trans G2.out g3) _
  have l3 : w.heap.size < w3.heap.size := (Array.getElem?_eq_some_iff.1 (blk_kept A2.out g3 (by omega))).1
  have A3 : Hid ((w3.alloc (.cells #[.string ⟨#[97]⟩, .string ⟨#[98]⟩, .string ⟨#[108, 111, 99, 107]⟩] 9)).heap[w.heap.size]? = some (.cells zreq 24 (0, 0))) := (Below.heap_alloc _ _ _ l3).trans (blk_kept A2.out g3 (by omega))
  have hp3 := s3.lt
  clear s3 g3 S2 G2 A2
  go_wp2_with fail
  refine (pick_any w3.heap.size 3 p B (K + 3) _ lk3 xs _ S3.out hB (by omega) hx (by decide) (by decide) (blk_new _ _ _) (by omega) ?_).mono ?_
  · intro j hj
    match j, hj with
    | 0, _ => rfl
    | 1, _ => rfl
    | 2, _ => rfl
  rintro e w4 ⟨r, rfl, hr, s4, g4⟩
  have S4 : Hid (Src B w4 p xs (K + 4)) := s4
  have G4 : Hid (w.grownBy w4 (some p)) := grown_trans G3.out g4
  have A4 : Hid (w4.heap[w.heap.size]? = some (.cells zreq 24 (0, 0))) := blk_kept A3.out g4 (by omega)
  have HO : Hid (opB (tnth lk3 r) = true) := lk3_ok r hr
  have l4 : w.heap.size < w4.heap.size := (Array.getElem?_eq_some_iff.1 A4.out).1
  have hp4 := s4.lt
  clear s4 g4 S3 G3 A3 hp3 l3
  generalize tnth lk3 r = n at HO ⊢
  have A5 : Hid ((w4.alloc (.cells #[.int .i64 c, .int .i64 (1 + st), .int .i64 (1 + k), .int .i64 0, .string n] 24)).heap[w.heap.size]? = some (.cells zreq 24 (0, 0))) := (Below.heap_alloc _ _ _ l4).trans A4.out
  have B5 : Hid ((w4.alloc (.cells #[.int .i64 c, .int .i64 (1 + st), .int .i64 (1 + k), .int .i64 0, .string n] 24)).heap[w4.heap.size]? = some (.cells #[.int .i64 c, .int .i64 (1 + st), .int .i64 (1 + k), .int .i64 0, .string n] 24 (0, 0))) := blk_new _ _ _
  have S5 : Hid (Src B (w4.alloc (.cells #[.int .i64 c, .int .i64 (1 + st), .int .i64 (1 + k), .int .i64 0, .string n] 24)) p xs (K + 4)) := S4.out.alloc hB _
  have G5 : Hid (w.grownBy (w4.alloc (.cells #[.int .i64 c, .int .i64 (1 + st), .int .i64 (1 + k), .int .i64 0, .string n] 24)) (some p)) := grown_alloc G4.out _
  go_upto_region 2 with fail
  generalize w4.alloc (.cells #[.int .i64 c, .int .i64 (1 + st), .int .i64 (1 + k), .int .i64 0, .string n] 24) = w5 at A5 B5 S5 G5 ⊢
  clear A4 S4 G4
  generalize w4.heap.size = x at B5 l4 hp4 ⊢
  have HC : Hid (inB c 0 255 = true) := decide_eq_true ⟨by omega, by omega⟩
  have HT : Hid (inB (1 + (st : Int)) 1 65535 = true) := decide_eq_true ⟨by omega, by omega⟩
  obtain ⟨kd, hkd⟩ : ∃ kd : Int, (1 : Int) + (k : Int) = kd := ⟨_, rfl⟩
  rw [hkd] at B5 ⊢
  have hkr : 1 ≤ kd ∧ kd ≤ 4 := by omega
  clear hkd
  have x2 := (blk_cell B5.out 2 (x := .int .i64 kd) rfl).1
  by_cases hle : kd = 1 ∨ kd = 3
  · have HL : Hid (∀ l : Nat, l < 30 → leB kd (1 + (l : Int)) = true) := fun l hl => decide_eq_true (.inl ⟨hle, by omega, by omega⟩)
    have hq : (kd == 1 || kd == 3) = true := by rcases hle with h | h <;> simp [h]
    obtain ⟨x3, y3⟩ := blk_cell B5.out 3 (x := .int .i64 0) rfl
    rcases hle with rfl | rfl
    · clear hq
      go_wp2_with fail
      refine (next_any 30 p B (K + 4) xs _ S5.out hB (by omega) hx (by decide) (by decide)).mono ?_
      rintro e w6 ⟨l, rfl, hl, s6, g6⟩
      have a6 := blk_kept A5.out g6 (by omega)
      have b6 := blk_kept B5.out g6 (by omega)
      obtain ⟨z3, t3⟩ := blk_cell b6 3 (x := .int .i64 0) rfl
      have AZ : Hid ((w6.setCell ⟨x, 3, none⟩ (.int .i64 (1 + l))).heap[w.heap.size]? = some (.cells zreq 24 (0, 0))) := (blk_far (by omega) 3 _).trans a6
      have BZ : Hid ((w6.setCell ⟨x, 3, none⟩ (.int .i64 (1 + l))).heap[x]? = some (.cells #[.int .i64 c, .int .i64 (1 + st), .int .i64 1, .int .i64 (1 + l), .string n] 24 (0, 0))) := blk_set b6 3 _
      have SZ : Hid (Src B (w6.setCell ⟨x, 3, none⟩ (.int .i64 (1 + l))) p xs (K + 5)) := Src.set s6 (by omega) (by omega) 3 _
      have GZ : Hid (w.grownBy (w6.setCell ⟨x, 3, none⟩ (.int .i64 (1 + l))) (some p)) := grown_new (grown_trans G5.out g6) (by omega) 3 _
      clear a6 b6 s6 g6 A5 B5 S5 G5 x2 x3 y3
      go_upto_region 4 with fail
      generalize w6.setCell ⟨x, 3, none⟩ (.int .i64 (1 + l)) = wz at AZ BZ SZ GZ ⊢
      clear z3 t3
      obtain ⟨ca0, fa0⟩ := blk_cell AZ.out 0 (x := .int .i64 0) rfl
      have cb0 := (blk_cell BZ.out 0 (x := .int .i64 c) rfl).1
      obtain ⟨ca1, fa1⟩ := blk_cell AZ.out 1 (x := .int .i64 0) rfl
      have cb1 := (blk_cell BZ.out 1 (x := .int .i64 (1 + st)) rfl).1
      obtain ⟨ca2, fa2⟩ := blk_cell AZ.out 2 (x := .int .i64 0) rfl
      have cb2 := (blk_cell BZ.out 2 (x := .int .i64 1) rfl).1
      obtain ⟨ca3, fa3⟩ := blk_cell AZ.out 3 (x := .int .i64 0) rfl
      have cb3 := (blk_cell BZ.out 3 (x := .int .i64 (1 + l)) rfl).1
      obtain ⟨ca4, fa4⟩ := blk_cell AZ.out 4 (x := .string ⟨#[]⟩) rfl
      have cb4 := (blk_cell BZ.out 4 (x := .string n) rfl).1
      have AF : ((((((wz.setCell ⟨w.heap.size, 0, none⟩ (.int .i64 c)).setCell ⟨w.heap.size, 1, none⟩ (.int .i64 (1 + st))).setCell ⟨w.heap.size, 2, none⟩ (.int .i64 1)).setCell ⟨w.heap.size, 3, none⟩ (.int .i64 (1 + l))).setCell ⟨w.heap.size, 4, none⟩ (.string n))).heap[w.heap.size]? = some (.cells #[.int .i64 c, .int .i64 (1 + st), .int .i64 1, .int .i64 (1 + l), .string n] 24 (0, 0)) := (blk_set (blk_set (blk_set (blk_set (blk_set AZ.out 0 (.int .i64 c)) 1 (.int .i64 (1 + st))) 2 (.int .i64 1)) 3 (.int .i64 (1 + l))) 4 (.string n))
      have GF : Hid (w.grownBy (((((wz.setCell ⟨w.heap.size, 0, none⟩ (.int .i64 c)).setCell ⟨w.heap.size, 1, none⟩ (.int .i64 (1 + st))).setCell ⟨w.heap.size, 2, none⟩ (.int .i64 1)).setCell ⟨w.heap.size, 3, none⟩ (.int .i64 (1 + l))).setCell ⟨w.heap.size, 4, none⟩ (.string n)) (some p)) := (grown_new (grown_new (grown_new (grown_new (grown_new GZ.out (Nat.le_refl _) 0 (.int .i64 c)) (Nat.le_refl _) 1 (.int .i64 (1 + st))) (Nat.le_refl _) 2 (.int .i64 1)) (Nat.le_refl _) 3 (.int .i64 (1 + l))) (Nat.le_refl _) 4 (.string n))
      have SF : Hid (Src B (((((wz.setCell ⟨w.heap.size, 0, none⟩ (.int .i64 c)).setCell ⟨w.heap.size, 1, none⟩ (.int .i64 (1 + st))).setCell ⟨w.heap.size, 2, none⟩ (.int .i64 1)).setCell ⟨w.heap.size, 3, none⟩ (.int .i64 (1 + l))).setCell ⟨w.heap.size, 4, none⟩ (.string n)) p xs (K + 5)) := (Src.set (Src.set (Src.set (Src.set (Src.set SZ.out (by omega) (by omega) 0 (.int .i64 c)) (by omega) (by omega) 1 (.int .i64 (1 + st))) (by omega) (by omega) 2 (.int .i64 1)) (by omega) (by omega) 3 (.int .i64 (1 + l))) (by omega) (by omega) 4 (.string n))
      go_wp2_with fail
      generalize (((((wz.setCell ⟨w.heap.size, 0, none⟩ (.int .i64 c)).setCell ⟨w.heap.size, 1, none⟩ (.int .i64 (1 + st))).setCell ⟨w.heap.size, 2, none⟩ (.int .i64 1)).setCell ⟨w.heap.size, 3, none⟩ (.int .i64 (1 + l))).setCell ⟨w.heap.size, 4, none⟩ (.string n)) = wf at AF GF SF ⊢
      have d0 := (blk_cell AF 0 (x := .int .i64 c) rfl).1
      have d1 := (blk_cell AF 1 (x := .int .i64 (1 + st)) rfl).1
      have d2 := (blk_cell AF 2 (x := .int .i64 1) rfl).1
      have d3 := (blk_cell AF 3 (x := .int .i64 (1 + l)) rfl).1
      have d4 := (blk_cell AF 4 (x := .string n) rfl).1
      exact bodyPost_ret (v := .agg #[.int .i64 c, .int .i64 (1 + st), .int .i64 1, .int .i64 (1 + l), .string n]) (by simp [results, Tryd.results14, go_sem, d0, d1, d2, d3, d4]) rfl ⟨_, _, _, _, _, rfl, req_ok HC.out HT.out (HL.out l hl) HO.out, SF.out, GF.out⟩
    · clear hq
      go_wp2_with fail
      refine (next_any 30 p B (K + 4) xs _ S5.out hB (by omega) hx (by decide) (by decide)).mono ?_
      rintro e w6 ⟨l, rfl, hl, s6, g6⟩
      have a6 := blk_kept A5.out g6 (by omega)
      have b6 := blk_kept B5.out g6 (by omega)
      obtain ⟨z3, t3⟩ := blk_cell b6 3 (x := .int .i64 0) rfl
      have AZ : Hid ((w6.setCell ⟨x, 3, none⟩ (.int .i64 (1 + l))).heap[w.heap.size]? = some (.cells zreq 24 (0, 0))) := (blk_far (by omega) 3 _).trans a6
      have BZ : Hid ((w6.setCell ⟨x, 3, none⟩ (.int .i64 (1 + l))).heap[x]? = some (.cells #[.int .i64 c, .int .i64 (1 + st), .int .i64 3, .int .i64 (1 + l), .string n] 24 (0, 0))) := blk_set b6 3 _
      have SZ : Hid (Src B (w6.setCell ⟨x, 3, none⟩ (.int .i64 (1 + l))) p xs (K + 5)) := Src.set s6 (by omega) (by omega) 3 _
      have GZ : Hid (w.grownBy (w6.setCell ⟨x, 3, none⟩ (.int .i64 (1 + l))) (some p)) := grown_new (grown_trans G5.out g6) (by omega) 3 _
      clear a6 b6 s6 g6 A5 B5 S5 G5 x2 x3 y3
      go_upto_region 4 with fail
      generalize w6.setCell ⟨x, 3, none⟩ (.int .i64 (1 + l)) = wz at AZ BZ SZ GZ ⊢
      clear z3 t3
      obtain ⟨ca0, fa0⟩ := blk_cell AZ.out 0 (x := .int .i64 0) rfl
      have cb0 := (blk_cell BZ.out 0 (x := .int .i64 c) rfl).1
      obtain ⟨ca1, fa1⟩ := blk_cell AZ.out 1 (x := .int .i64 0) rfl
      have cb1 := (blk_cell BZ.out 1 (x := .int .i64 (1 + st)) rfl).1
      obtain ⟨ca2, fa2⟩ := blk_cell AZ.out 2 (x := .int .i64 0) rfl
      have cb2 := (blk_cell BZ.out 2 (x := .int .i64 3) rfl).1
      obtain ⟨ca3, fa3⟩ := blk_cell AZ.out 3 (x := .int .i64 0) rfl
      have cb3 := (blk_cell BZ.out 3 (x := .int .i64 (1 + l)) rfl).1
      obtain ⟨ca4, fa4⟩ := blk_cell AZ.out 4 (x := .string ⟨#[]⟩) rfl
      have cb4 := (blk_cell BZ.out 4 (x := .string n) rfl).1
      have AF : ((((((wz.setCell ⟨w.heap.size, 0, none⟩ (.int .i64 c)).setCell ⟨w.heap.size, 1, none⟩ (.int .i64 (1 + st))).setCell ⟨w.heap.size, 2, none⟩ (.int .i64 3)).setCell ⟨w.heap.size, 3, none⟩ (.int .i64 (1 + l))).setCell ⟨w.heap.size, 4, none⟩ (.string n))).heap[w.heap.size]? = some (.cells #[.int .i64 c, .int .i64 (1 + st), .int .i64 3, .int .i64 (1 + l), .string n] 24 (0, 0)) := (blk_set (blk_set (blk_set (blk_set (blk_set AZ.out 0 (.int .i64 c)) 1 (.int .i64 (1 + st))) 2 (.int .i64 3)) 3 (.int .i64 (1 + l))) 4 (.string n))
      have GF : Hid (w.grownBy (((((wz.setCell ⟨w.heap.size, 0, none⟩ (.int .i64 c)).setCell ⟨w.heap.size, 1, none⟩ (.int .i64 (1 + st))).setCell ⟨w.heap.size, 2, none⟩ (.int .i64 3)).setCell ⟨w.heap.size, 3, none⟩ (.int .i64 (1 + l))).setCell ⟨w.heap.size, 4, none⟩ (.string n)) (some p)) := (grown_new (grown_new (grown_new (grown_new (grown_new GZ.out (Nat.le_refl _) 0 (.int .i64 c)) (Nat.le_refl _) 1 (.int .i64 (1 + st))) (Nat.le_refl _) 2 (.int .i64 3)) (Nat.le_refl _) 3 (.int .i64 (1 + l))) (Nat.le_refl _) 4 (.string n))
      have SF : Hid (Src B (((((wz.setCell ⟨w.heap.size, 0, none⟩ (.int .i64 c)).setCell ⟨w.heap.size, 1, none⟩ (.int .i64 (1 + st))).setCell ⟨w.heap.size, 2, none⟩ (.int .i64 3)).setCell ⟨w.heap.size, 3, none⟩ (.int .i64 (1 + l))).setCell ⟨w.heap.size, 4, none⟩ (.string n)) p xs (K + 5)) := (Src.set (Src.set (Src.set (Src.set (Src.set SZ.out (by omega) (by omega) 0 (.int .i64 c)) (by omega) (by omega) 1 (.int .i64 (1 + st))) (by omega) (by omega) 2 (.int .i64 3)) (by omega) (by omega) 3 (.int .i64 (1 + l))) (by omega) (by omega) 4 (.string n))
      go_wp2_with fail
      generalize (((((wz.setCell ⟨w.heap.size, 0, none⟩ (.int .i64 c)).setCell ⟨w.heap.size, 1, none⟩ (.int .i64 (1 + st))).setCell ⟨w.heap.size, 2, none⟩ (.int .i64 3)).setCell ⟨w.heap.size, 3, none⟩ (.int .i64 (1 + l))).setCell ⟨w.heap.size, 4, none⟩ (.string n)) = wf at AF GF SF ⊢
      have d0 := (blk_cell AF 0 (x := .int .i64 c) rfl).1
      have d1 := (blk_cell AF 1 (x := .int .i64 (1 + st)) rfl).1
      have d2 := (blk_cell AF 2 (x := .int .i64 3) rfl).1
      have d3 := (blk_cell AF 3 (x := .int .i64 (1 + l)) rfl).1
      have d4 := (blk_cell AF 4 (x := .string n) rfl).1
      exact bodyPost_ret (v := .agg #[.int .i64 c, .int .i64 (1 + st), .int .i64 3, .int .i64 (1 + l), .string n]) (by simp [results, Tryd.results14, go_sem, d0, d1, d2, d3, d4]) rfl ⟨_, _, _, _, _, rfl, req_ok HC.out HT.out (HL.out l hl) HO.out, SF.out, GF.out⟩
  · have HL : Hid (leB kd 0 = true) := decide_eq_true (.inr ⟨by omega, rfl⟩)
    have q1 : (kd == 1) = false := by simp; omega
    have q3 : (kd == 3) = false := by simp; omega
    have SZ : Hid (Src B w5 p xs (K + 5)) := S5.out.le (by omega)
    clear hle S5
    go_upto_region 4 with fail
    obtain ⟨ca0, fa0⟩ := blk_cell A5.out 0 (x := .int .i64 0) rfl
    have cb0 := (blk_cell B5.out 0 (x := .int .i64 c) rfl).1
    obtain ⟨ca1, fa1⟩ := blk_cell A5.out 1 (x := .int .i64 0) rfl
    have cb1 := (blk_cell B5.out 1 (x := .int .i64 (1 + st)) rfl).1
    obtain ⟨ca2, fa2⟩ := blk_cell A5.out 2 (x := .int .i64 0) rfl
    have cb2 := (blk_cell B5.out 2 (x := .int .i64 kd) rfl).1
    obtain ⟨ca3, fa3⟩ := blk_cell A5.out 3 (x := .int .i64 0) rfl
    have cb3 := (blk_cell B5.out 3 (x := .int .i64 0) rfl).1
    obtain ⟨ca4, fa4⟩ := blk_cell A5.out 4 (x := .string ⟨#[]⟩) rfl
    have cb4 := (blk_cell B5.out 4 (x := .string n) rfl).1
    have AF : ((((((w5.setCell ⟨w.heap.size, 0, none⟩ (.int .i64 c)).setCell ⟨w.heap.size, 1, none⟩ (.int .i64 (1 + st))).setCell ⟨w.heap.size, 2, none⟩ (.int .i64 kd)).setCell ⟨w.heap.size, 3, none⟩ (.int .i64 0)).setCell ⟨w.heap.size, 4, none⟩ (.string n))).heap[w.heap.size]? = some (.cells #[.int .i64 c, .int .i64 (1 + st), .int .i64 kd, .int .i64 0, .string n] 24 (0, 0)) := (blk_set (blk_set (blk_set (blk_set (blk_set A5.out 0 (.int .i64 c)) 1 (.int .i64 (1 + st))) 2 (.int .i64 kd)) 3 (.int .i64 0)) 4 (.string n))
    have GF : Hid (w.grownBy (((((w5.setCell ⟨w.heap.size, 0, none⟩ (.int .i64 c)).setCell ⟨w.heap.size, 1, none⟩ (.int .i64 (1 + st))).setCell ⟨w.heap.size, 2, none⟩ (.int .i64 kd)).setCell ⟨w.heap.size, 3, none⟩ (.int .i64 0)).setCell ⟨w.heap.size, 4, none⟩ (.string n)) (some p)) := (grown_new (grown_new (grown_new (grown_new (grown_new G5.out (Nat.le_refl _) 0 (.int .i64 c)) (Nat.le_refl _) 1 (.int .i64 (1 + st))) (Nat.le_refl _) 2 (.int .i64 kd)) (Nat.le_refl _) 3 (.int .i64 0)) (Nat.le_refl _) 4 (.string n))
    have SF : Hid (Src B (((((w5.setCell ⟨w.heap.size, 0, none⟩ (.int .i64 c)).setCell ⟨w.heap.size, 1, none⟩ (.int .i64 (1 + st))).setCell ⟨w.heap.size, 2, none⟩ (.int .i64 kd)).setCell ⟨w.heap.size, 3, none⟩ (.int .i64 0)).setCell ⟨w.heap.size, 4, none⟩ (.string n)) p xs (K + 5)) := (Src.set (Src.set (Src.set (Src.set (Src.set SZ.out (by omega) (by omega) 0 (.int .i64 c)) (by omega) (by omega) 1 (.int .i64 (1 + st))) (by omega) (by omega) 2 (.int .i64 kd)) (by omega) (by omega) 3 (.int .i64 0)) (by omega) (by omega) 4 (.string n))
    go_wp2_with fail
    generalize (((((w5.setCell ⟨w.heap.size, 0, none⟩ (.int .i64 c)).setCell ⟨w.heap.size, 1, none⟩ (.int .i64 (1 + st))).setCell ⟨w.heap.size, 2, none⟩ (.int .i64 kd)).setCell ⟨w.heap.size, 3, none⟩ (.int .i64 0)).setCell ⟨w.heap.size, 4, none⟩ (.string n)) = wf at AF GF SF ⊢
    have d0 := (blk_cell AF 0 (x := .int .i64 c) rfl).1
    have d1 := (blk_cell AF 1 (x := .int .i64 (1 + st)) rfl).1
    have d2 := (blk_cell AF 2 (x := .int .i64 kd) rfl).1
    have d3 := (blk_cell AF 3 (x := .int .i64 0) rfl).1
    have d4 := (blk_cell AF 4 (x := .string n) rfl).1
    exact bodyPost_ret (v := .agg #[.int .i64 c, .int .i64 (1 + st), .int .i64 kd, .int .i64 0, .string n]) (by simp [results, Tryd.results14, go_sem, d0, d1, d2, d3, d4]) rfl ⟨_, _, _, _, _, rfl, req_ok HC.out HT.out HL.out HO.out, SF.out, GF.out⟩
end Go.Proofs.YtiflfcpoajijaaaDoor.Gn
