/- The reader of the wire: what it takes, what is left. -/
import Derived.Test.YtdhmmbbdckahmaaAp
import Derived.Test.YtdhmmbbdckahmaaReqLaw
import Derived.Lib.SmallJoins
namespace Go.Proofs.Ytdhmmbbdckahmaa.Rr
open Go.RowKit Go.Proofs.Ytdhmmbbdckahmaa.Sl Go.Proofs.Ytdhmmbbdckahmaa.By Go.Proofs.Ytdhmmbbdckahmaa.Ap Go.Proofs.Ytdhmmbbdckahmaa.Rq

/-- The slice v holds the bytes xs, in blocks below B. -/
def RowU (B : Nat) (w : World) (v : Value) (xs : List Int) : Prop :=
  ∃ a cap, v = .slice a xs.length cap ∧ xs.length ≤ cap ∧ (xs = [] ∨ ∃ b off, a = some ⟨b, off, none⟩ ∧ b < B ∧ ∀ i, i < xs.length → w.cell? ⟨b, off + i, none⟩ = some (.int .u8 (nth xs i))) ∧ ∀ x ∈ xs, 0 ≤ x ∧ x ≤ 255
theorem RowU.of {w : World} {v : Value} {xs : List Int} (h : RowB w v xs) : RowU w.heap.size w v xs := by
  obtain ⟨a, cap, rfl, h, hr⟩ := h
  rcases h with rfl | ⟨b, off, rfl, hc, hlt, h⟩
  · exact ⟨a, cap, rfl, Nat.zero_le _, .inl rfl, hr⟩
  · exact ⟨_, cap, rfl, hc, .inr ⟨b, off, rfl, hlt, h⟩, hr⟩
theorem RowU.row {B : Nat} {w : World} {v : Value} {xs : List Int} (h : RowU B w v xs) (hB : B ≤ w.heap.size) : RowB w v xs := by
  obtain ⟨a, cap, rfl, hc, h, hr⟩ := h
  rcases h with rfl | ⟨b, off, rfl, hlt, h⟩
  · exact ⟨a, cap, rfl, .inl rfl, hr⟩
  · exact ⟨_, cap, rfl, .inr ⟨b, off, rfl, hc, Nat.lt_of_lt_of_le hlt hB, h⟩, hr⟩
theorem RowU.kept {B : Nat} {w w' : World} {v : Value} {xs : List Int} (h : RowU B w v xs) (hb : ∀ k, k < B → w'.heap[k]? = w.heap[k]?) : RowU B w' v xs := by
  obtain ⟨a, cap, rfl, hc, h, hr⟩ := h
  refine ⟨a, cap, rfl, hc, ?_, hr⟩
  rcases h with h | ⟨b, off, rfl, hlt, h⟩
  · exact .inl h
  · exact .inr ⟨b, off, rfl, hlt, fun i hi => (World.cell?_of_block (a := ⟨b, off + i, none⟩) (hb b hlt)).trans (h i hi)⟩

/-- What is taken; what is left. -/
def tkB (n : Nat) (xs : List Int) : List Int := if xs.length < n then [] else xs.take n
def tkR (n : Nat) (xs : List Int) : List Int := if xs.length < n then [] else xs.drop n
def tkS (n : Nat) (xs : List Int) (sh : Bool) : Bool := sh || decide (xs.length < n)

theorem grown_set {w : World} {p : Nat} (i : Nat) (x : Value) : w.grownBy (w.setCell ⟨p, i, none⟩ x) (some p) :=
  ⟨rfl, rfl, rfl, by simp, fun k _ hk => Below.heap_setCell w ⟨p, i, none⟩ x k (fun e => hk (by rw [e]))⟩
theorem grown_trans {w w1 w2 : World} {r : Option Nat} (h : w.grownBy w1 r) (g : w1.grownBy w2 r) : w.grownBy w2 r :=
  ⟨g.os.trans h.os, g.tape.trans h.tape, g.output.trans h.output, Nat.le_trans h.size g.size, fun k hk hn => (g.block k (Nat.lt_of_lt_of_le hk h.size) hn).trans (h.block k hk hn)⟩
theorem grown_refl (w : World) (r : Option Nat) : w.grownBy w r := ⟨rfl, rfl, rfl, Nat.le_refl _, fun _ _ _ => rfl⟩
theorem below_kept {B p : Nat} {w w' : World} (h : w.grownBy w' (some p)) (hB : B ≤ p) (hp : p < w.heap.size) : ∀ k, k < B → w'.heap[k]? = w.heap[k]? :=
  fun k hk => h.block k (by omega) (by simp; omega)
theorem nth_take {xs : List Int} {n i : Nat} (h : i < n) : nth (xs.take n) i = nth xs i := by
  unfold nth; rw [List.getD_eq_getElem?_getD, List.getD_eq_getElem?_getD, List.getElem?_take_of_lt h]
theorem nth_drop {xs : List Int} {n i : Nat} : nth (xs.drop n) i = nth xs (n + i) := by
  unfold nth; rw [List.getD_eq_getElem?_getD, List.getD_eq_getElem?_getD, List.getElem?_drop]

theorem set0 {w : World} {p : Nat} {v x y : Value} {t : TypeId} (h : w.heap[p]? = some (.cells #[v, y] t (0, 0))) : (w.setCell ⟨p, 0, none⟩ x).heap[p]? = some (.cells #[x, y] t (0, 0)) := Joins.block_setCell (i := 0) h x
theorem set1 {w : World} {p : Nat} {v x y : Value} {t : TypeId} (h : w.heap[p]? = some (.cells #[v, y] t (0, 0))) : (w.setCell ⟨p, 1, none⟩ x).heap[p]? = some (.cells #[v, x] t (0, 0)) := Joins.block_setCell (i := 1) h x
theorem len_take {xs : List Int} {n : Nat} (h : n ≤ xs.length) : (xs.take n).length = n := by rw [List.length_take]; omega
theorem row_take {B : Nat} {w : World} {a : Option Addr} {cap n : Nat} {xs : List Int} (h : RowU B w (.slice a xs.length cap) xs) (hn : n ≤ xs.length) : RowU B w (.slice a n cap) (xs.take n) := by
  obtain ⟨a', cap', e, hc, h, hr⟩ := h
  simp only [Value.slice.injEq, true_and] at e
  obtain ⟨rfl, rfl⟩ := e
  refine ⟨a, cap, by rw [len_take hn], by rw [len_take hn]; omega, ?_, fun x hx => hr x (List.mem_of_mem_take hx)⟩
  rcases h with rfl | ⟨b, off, rfl, hlt, h⟩
  · exact .inl (by simp)
  · refine .inr ⟨b, off, rfl, hlt, fun i hi => ?_⟩
    rw [len_take hn] at hi
    rw [nth_take hi]
    exact h i (by omega)
theorem row_drop {B : Nat} {w : World} {a : Option Addr} {cap n : Nat} {xs : List Int} (h : RowU B w (.slice a xs.length cap) xs) (hn : n ≤ xs.length) : RowU B w (.slice (if cap = n then a else a.map (·.add n)) (xs.length - n) (cap - n)) (xs.drop n) := by
  obtain ⟨a', cap', e, hc, h, hr⟩ := h
  simp only [Value.slice.injEq, true_and] at e
  obtain ⟨rfl, rfl⟩ := e
  refine ⟨_, cap - n, by rw [List.length_drop], by rw [List.length_drop]; omega, ?_, fun x hx => hr x (List.mem_of_mem_drop hx)⟩
  by_cases he : xs.length = n
  · exact .inl (List.drop_eq_nil_of_le (by omega))
  · rcases h with rfl | ⟨b, off, rfl, hlt, h⟩
    · exact .inl (by simp)
    · rw [if_neg (by omega)]
      refine .inr ⟨b, off + n, by simp [addr_add], hlt, fun i hi => ?_⟩
      rw [List.length_drop] at hi
      rw [nth_drop, Nat.add_assoc]
      exact h (n + i) (by omega)

/-- The number that some bytes make, the higher ones first. -/
def beN : List Int → Int := fun xs => xs.foldl (fun n x => n * 256 + x) 0
theorem beN_snoc (xs : List Int) (x : Int) : beN (xs ++ [x]) = beN xs * 256 + x := by unfold beN; rw [List.foldl_append]; rfl
theorem fold_range : ∀ (xs : List Int) (a : Int), (∀ x ∈ xs, 0 ≤ x ∧ x ≤ 255) → 0 ≤ a → 0 ≤ xs.foldl (fun n x => n * 256 + x) a ∧ xs.foldl (fun n x => n * 256 + x) a < (a + 1) * 256 ^ xs.length
  | [], a, _, h => by simp; omega
  | x :: xs, a, hr, h => by
    have hx := hr x (by simp)
    have ih := fold_range xs (a * 256 + x) (fun y hy => hr y (by simp [hy])) (by omega)
    refine ⟨ih.1, Int.lt_of_lt_of_le ih.2 ?_⟩
    rw [List.length_cons, Int.pow_succ, Int.mul_comm (256 ^ xs.length) 256, ← Int.mul_assoc]
    exact Int.mul_le_mul_of_nonneg_right (by omega) (Int.le_of_lt (Int.pow_pos (by decide)))
theorem beN_range (xs : List Int) (h : ∀ x ∈ xs, 0 ≤ x ∧ x ≤ 255) : 0 ≤ beN xs ∧ beN xs < 256 ^ xs.length := by
  have := fold_range xs 0 h (by decide)
  unfold beN
  simpa using this
theorem take_succ_nth {xs : List Int} {k : Nat} (h : k < xs.length) : xs.take (k + 1) = xs.take k ++ [nth xs k] := by
  rw [List.take_add_one, List.getElem?_eq_getElem h]; simp [nth, List.getElem?_eq_getElem h]

theorem or64 (m x : Int) (h0 : 0 ≤ m) (h1 : m < 16777216) (h2 : 0 ≤ x) (h3 : x ≤ 255) : bits .or .i64 (m * 256) x = m * 256 + x := by
  obtain ⟨M, rfl⟩ : ∃ M : Nat, m = M := ⟨m.toNat, by omega⟩
  obtain ⟨X, rfl⟩ : ∃ X : Nat, x = X := ⟨x.toNat, by omega⟩
  have e : bits .or .i64 ((M : Int) * 256) (X : Int) = IntKind.i64.wrap (((BitVec.ofInt 64 ((M : Int) * 256) ||| BitVec.ofInt 64 (X : Int)).toNat : Nat) : Int) := rfl
  have e1 := ofInt_u64 (M * 256) (by omega)
  have e2 := ofInt_u64 X (by omega)
  have e3 : ((M : Int) * 256) = ((M * 256 : Nat) : Int) := by omega
  have e4 : M * 256 ||| X = M * 256 + X := by
    have := Nat.two_pow_add_eq_or_of_lt (i := 8) (b := X) (by omega) M
    rw [Nat.mul_comm]
    exact this.symm
  rw [e, e3, BitVec.toNat_or, e1, e2, e4, IntKind.wrap_i64]
  omega
theorem val_eq {k : IntKind} {a b : Int} (h : a = b) : Value.int k a = .int k b := by rw [h]
theorem tkB_len (n : Nat) (xs : List Int) : (tkB n xs).length ≤ n := by unfold tkB; split; simp; rw [List.length_take]; omega
theorem tkB_range {n : Nat} {xs : List Int} (h : ∀ x ∈ xs, 0 ≤ x ∧ x ≤ 255) : ∀ x ∈ tkB n xs, 0 ≤ x ∧ x ≤ 255 := by
  unfold tkB; split
  · intro x hx; cases hx
  · exact fun x hx => h x (List.mem_of_mem_take hx)
theorem tkR_range {n : Nat} {xs : List Int} (h : ∀ x ∈ xs, 0 ≤ x ∧ x ≤ 255) : ∀ x ∈ tkR n xs, 0 ≤ x ∧ x ≤ 255 := by
  unfold tkR; split
  · intro x hx; cases hx
  · exact fun x hx => h x (List.mem_of_mem_drop hx)
theorem tkR_len (n : Nat) (xs : List Int) : (tkR n xs).length ≤ xs.length := by unfold tkR; split; simp; rw [List.length_drop]; omega

/-- A text that is taken: its length first. -/
def txtN (n : Nat) (xs : List Int) : Nat := (beN (tkB n xs)).toNat
def txtB (n : Nat) (xs : List Int) : ByteArray := strOfNums (tkB (txtN n xs) (tkR n xs))
def txtR (n : Nat) (xs : List Int) : List Int := tkR (txtN n xs) (tkR n xs)
def txtS (n : Nat) (xs : List Int) (sh : Bool) : Bool := tkS (txtN n xs) (tkR n xs) (tkS n xs sh)
theorem txtN_le (n : Nat) (xs : List Int) (hn : n ≤ 2) (hr : ∀ x ∈ xs, 0 ≤ x ∧ x ≤ 255) : txtN n xs ≤ 65535 ∧ beN (tkB n xs) = (txtN n xs : Int) := by
  have h1 := beN_range _ (tkB_range (n := n) hr)
  have h2 := tkB_len n xs
  have h3 : (256 : Int) ^ (tkB n xs).length ≤ 65536 := by
    generalize (tkB n xs).length = q at h2
    have h3 : q ≤ 2 := by omega
    match q, h3 with
    | 0, _ => decide
    | 1, _ => decide
    | 2, _ => decide
  unfold txtN
  omega
theorem run_convert_zero {P : Program} (w : World) (src e : TypeId) (hs : P.underlying src = some (.slice e)) (he : P.underlying e = some (.int .u8)) (a : Option Addr) (c : Nat) (dst : TypeId) (hd : P.underlying dst = some .string) :
    (convert src dst (.slice a 0 c)).run P w = .ok (.string (strOfNums [])) w := by
  cases a with
  | none => rw [run_convert_bytes_nil w src e hs he 0 c dst hd]; rfl
  | some ad =>
    unfold convert
    simp [run_underlying hs, run_underlying he, run_underlying hd]
    rfl
theorem run_convert_row {P : Program} (w : World) (B : Nat) (src e dst : TypeId) (hs : P.underlying src = some (.slice e)) (he : P.underlying e = some (.int .u8)) (hd : P.underlying dst = some .string)
    (v : Value) (zs : List Int) (h : RowU B w v zs) : (convert src dst v).run P w = .ok (.string (strOfNums zs)) w := by
  obtain ⟨a, cap, rfl, hc, h, _⟩ := h
  rcases h with rfl | ⟨b, off, rfl, hb, h⟩
  · exact run_convert_zero w src e hs he a cap dst hd
  · refine run_convert_bytes_arg w src e hs he b off zs.length cap zs rfl (fun i hi => ?_) dst hd
    exact h i hi

end Go.Proofs.Ytdhmmbbdckahmaa.Rr
