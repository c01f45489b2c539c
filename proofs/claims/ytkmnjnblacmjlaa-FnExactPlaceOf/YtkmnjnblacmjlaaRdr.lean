/- The reader of the wire: what it takes, what is left. -/
import Derived.Test.YtkmnjnblacmjlaaAp
import Derived.Test.YtkmnjnblacmjlaaReqLaw
import Derived.Lib.SmallJoins
namespace Go.Proofs.Ytkmnjnblacmjlaa.Rr
open Go.RowKit Go.Proofs.Ytkmnjnblacmjlaa.Sl Go.Proofs.Ytkmnjnblacmjlaa.By Go.Proofs.Ytkmnjnblacmjlaa.Ap Go.Proofs.Ytkmnjnblacmjlaa.Rq

/-- The slice v holds the bytes xs, in blocks below B. -/
def RowU (B : Nat) (w : World) (v : Value) (xs : List Int) : Prop :=
  ∃ a cap, v = .slice a xs.length cap ∧ xs.length ≤ cap ∧ (xs = [] ∨ ∃ b off, a = some ⟨b, off, none⟩ ∧ b < B ∧ ∀ i, i < xs.length → w.cell? ⟨b, off + i, none⟩ = some (.int .u8 (nth xs i))) ∧ ∀ x ∈ xs, 0 ≤ x ∧ x ≤ 255
theorem RowU.of {w : World} {v : Value} {xs : List Int} (h : RowB w v xs) : RowU w.heap.size w v xs := by
  obtain ⟨a, cap, rfl, h, hr⟩ := h
  rcases h with rfl | ⟨b, off, rfl, hc, hlt, h⟩
  · exact ⟨a, cap, rfl, Nat.zero_le _, .inl rfl, hr⟩
  · exact ⟨_, cap, rfl, hc, .inr ⟨b, off, rfl, hlt, h⟩, hr⟩
theorem RowU.row {B : Nat} {w : World} {v : Value} {xs : List Int} (h : RowU B w v xs) (hB : B ≤ w.heap.size) : RowB w v xs := by
  obtain ⟨a, cap, rfl, hc, h, hr⟩ := h
  rcases h with rfl | ⟨b, off, rfl, hlt, h⟩
  · exact ⟨a, cap, rfl, .inl rfl, hr⟩
  · exact ⟨_, cap, rfl, .inr ⟨b, off, rfl, hc, Nat.lt_of_lt_of_le hlt hB, h⟩, hr⟩
theorem RowU.kept {B : Nat} {w w' : World} {v : Value} {xs : List Int} (h : RowU B w v xs) (hb : ∀ k, k < B → w'.heap[k]? = w.heap[k]?) : RowU B w' v xs := by
  obtain ⟨a, cap, rfl, hc, h, hr⟩ := h
  refine ⟨a, cap, rfl, hc, ?_, hr⟩
  rcases h with h | ⟨b, off, rfl, hlt, h⟩
  · exact .inl h
  · exact .inr ⟨b, off, rfl, hlt, fun i hi => (World.cell?_of_block (a := ⟨b, off + i, none⟩) (hb b hlt)).trans (h i hi)⟩

/-- A reader in block p: what is left, and whether it fell short. -/
def Rdr (B : Nat) (w : World) (p : Nat) (xs : List Int) (sh : Bool) : Prop := ∃ v, w.heap[p]? = some (.cells #[v, .bool sh] 58 (0, 0)) ∧ RowU B w v xs
theorem Rdr.kept {B p : Nat} {w w' : World} {xs : List Int} {sh : Bool} (h : Rdr B w p xs sh) (hp : w'.heap[p]? = w.heap[p]?) (hb : ∀ k, k < B → w'.heap[k]? = w.heap[k]?) : Rdr B w' p xs sh := by
  obtain ⟨v, h1, h2⟩ := h
  exact ⟨v, hp.trans h1, h2.kept hb⟩
theorem Rdr.lt {B p : Nat} {w : World} {xs : List Int} {sh : Bool} (h : Rdr B w p xs sh) : p < w.heap.size := by
  obtain ⟨v, h1, _⟩ := h
  exact (Array.getElem?_eq_some_iff.1 h1).1

/-- What is taken; what is left. -/
def tkB (n : Nat) (xs : List Int) : List Int := if xs.length < n then [] else xs.take n
def tkR (n : Nat) (xs : List Int) : List Int := if xs.length < n then [] else xs.drop n
def tkS (n : Nat) (xs : List Int) (sh : Bool) : Bool := sh || decide (xs.length < n)

theorem grown_set {w : World} {p : Nat} (i : Nat) (x : Value) : w.grownBy (w.setCell ⟨p, i, none⟩ x) (some p) :=
  ⟨rfl, rfl, rfl, by simp, fun k _ hk => Below.heap_setCell w ⟨p, i, none⟩ x k (fun e => hk (by rw [e]))⟩
theorem grown_trans {w w1 w2 : World} {r : Option Nat} (h : w.grownBy w1 r) (g : w1.grownBy w2 r) : w.grownBy w2 r :=
  ⟨g.os.trans h.os, g.tape.trans h.tape, g.output.trans h.output, Nat.le_trans h.size g.size, fun k hk hn => (g.block k (Nat.lt_of_lt_of_le hk h.size) hn).trans (h.block k hk hn)⟩
theorem grown_refl (w : World) (r : Option Nat) : w.grownBy w r := ⟨rfl, rfl, rfl, Nat.le_refl _, fun _ _ _ => rfl⟩
theorem below_kept {B p : Nat} {w w' : World} (h : w.grownBy w' (some p)) (hB : B ≤ p) (hp : p < w.heap.size) : ∀ k, k < B → w'.heap[k]? = w.heap[k]? :=
  fun k hk => h.block k (by omega) (by simp; omega)
theorem nth_take {xs : List Int} {n i : Nat} (h : i < n) : nth (xs.take n) i = nth xs i := by
  unfold nth; rw [List.getD_eq_getElem?_getD, List.getD_eq_getElem?_getD, List.getElem?_take_of_lt h]
theorem nth_drop {xs : List Int} {n i : Nat} : nth (xs.drop n) i = nth xs (n + i) := by
  unfold nth; rw [List.getD_eq_getElem?_getD, List.getD_eq_getElem?_getD, List.getElem?_drop]

theorem set0 {w : World} {p : Nat} {v x y : Value} {t : TypeId} (h : w.heap[p]? = some (.cells #[v, y] t (0, 0))) : (w.setCell ⟨p, 0, none⟩ x).heap[p]? = some (.cells #[x, y] t (0, 0)) := Joins.block_setCell (i := 0) h x
theorem set1 {w : World} {p : Nat} {v x y : Value} {t : TypeId} (h : w.heap[p]? = some (.cells #[v, y] t (0, 0))) : (w.setCell ⟨p, 1, none⟩ x).heap[p]? = some (.cells #[v, x] t (0, 0)) := Joins.block_setCell (i := 1) h x
theorem len_take {xs : List Int} {n : Nat} (h : n ≤ xs.length) : (xs.take n).length = n := by rw [List.length_take]; omega
theorem row_take {B : Nat} {w : World} {a : Option Addr} {cap n : Nat} {xs : List Int} (h : RowU B w (.slice a xs.length cap) xs) (hn : n ≤ xs.length) : RowU B w (.slice a n cap) (xs.take n) := by
  obtain ⟨a', cap', e, hc, h, hr⟩ := h
  simp only [Value.slice.injEq, true_and] at e
  obtain ⟨rfl, rfl⟩ := e
  refine ⟨a, cap, by rw [len_take hn], by rw [len_take hn]; omega, ?_, fun x hx => hr x (List.mem_of_mem_take hx)⟩
  rcases h with rfl | ⟨b, off, rfl, hlt, h⟩
  · exact .inl (by simp)
  · refine .inr ⟨b, off, rfl, hlt, fun i hi => ?_⟩
    rw [len_take hn] at hi
    rw [nth_take hi]
    exact h i (by omega)
theorem row_drop {B : Nat} {w : World} {a : Option Addr} {cap n : Nat} {xs : List Int} (h : RowU B w (.slice a xs.length cap) xs) (hn : n ≤ xs.length) : RowU B w (.slice (if cap = n then a else a.map (·.add n)) (xs.length - n) (cap - n)) (xs.drop n) := by
  obtain ⟨a', cap', e, hc, h, hr⟩ := h
  simp only [Value.slice.injEq, true_and] at e
  obtain ⟨rfl, rfl⟩ := e
  refine ⟨_, cap - n, by rw [List.length_drop], by rw [List.length_drop]; omega, ?_, fun x hx => hr x (List.mem_of_mem_drop hx)⟩
  by_cases he : xs.length = n
  · exact .inl (List.drop_eq_nil_of_le (by omega))
  · rcases h with rfl | ⟨b, off, rfl, hlt, h⟩
    · exact .inl (by simp)
    · rw [if_neg (by omega)]
      refine .inr ⟨b, off + n, by simp [addr_add], hlt, fun i hi => ?_⟩
      rw [List.length_drop] at hi
      rw [nth_drop, Nat.add_assoc]
      exact h (n + i) (by omega)

set_option maxHeartbeats 800000 in
theorem take_any (n p B : Nat) (xs : List Int) (sh : Bool) (w : World) (h : Rdr B w p xs sh) (hB : B ≤ p) (hn : n ≤ 70000) (_hx : xs.length ≤ 70000) :
    Calls Try.prog 32 #[.pointer (some ⟨p, 0, none⟩), .int .i64 n] w fun e w' => ∃ v', e = .returned v' ∧ RowU B w' v' (tkB n xs) ∧ Rdr B w' p (tkR n xs) (tkS n xs sh) ∧ w.grownBy w' (some p) := by
  have hp := h.lt
  obtain ⟨v, h1, hu⟩ := h
  have c0 := Joins.cell_of_block h1 0
  have c1 := Joins.cell_of_block h1 1
  have f0 := Joins.unfrozen_of_block h1 0
  have f1 := Joins.unfrozen_of_block h1 1
  have HU : Hid (RowU B w v xs) := hu
  obtain ⟨a, cap, rfl, hcap, hc, hr⟩ := hu
  simp at c0 c1
  have H1 : Hid (w.heap[p]? = some (.cells #[.slice a xs.length cap, .bool sh] 58 (0, 0))) := h1
  clear h1 hc hr
  by_cases hlt : xs.length < n
  · have hlt' : (xs.length : Int) < (n : Int) := by omega
    have e1 : Hid (tkB n xs = [] ∧ tkR n xs = [] ∧ tkS n xs sh = true) := ⟨if_pos hlt, if_pos hlt, by unfold tkS; simp [hlt]⟩
    clear hlt
    go_enter Try.func32, Try.ntmps32
    go_wp2
    go_ret
    rw [e1.out.1, e1.out.2.1, e1.out.2.2]
    exact ⟨_, rfl, ⟨none, 0, rfl, Nat.le_refl _, .inl rfl, fun x hx => by cases hx⟩, ⟨_, set1 (set0 H1.out), none, 0, rfl, Nat.le_refl _, .inl rfl, fun x hx => by cases hx⟩, grown_trans (grown_set _ _) (grown_set _ _)⟩
  · have hlt' : (n : Int) ≤ (xs.length : Int) := by omega
    have e1 : Hid (tkB n xs = xs.take n ∧ tkR n xs = xs.drop n ∧ tkS n xs sh = sh) := ⟨if_neg hlt, if_neg hlt, by unfold tkS; simp [hlt]⟩
    have HT : Hid (RowU B w (.slice a n cap) (xs.take n)) := row_take HU.out (show n ≤ xs.length by omega)
    have HD := row_drop HU.out (show n ≤ xs.length by omega)
    by_cases hcn : cap = n
    · subst hcn
      rw [if_pos rfl, Nat.sub_self] at HD
      rw [show xs.length - cap = 0 by omega] at HD
      have HD' : Hid (RowU B w (.slice a 0 0) (xs.drop cap)) := HD
      clear hlt HD
      go_enter Try.func32, Try.ntmps32
      go_wp2
      go_ret
      rw [e1.out.1, e1.out.2.1, e1.out.2.2]
      refine ⟨_, rfl, RowU.kept HT.out (below_kept (grown_set _ _) hB hp), ⟨_, set0 H1.out, RowU.kept HD'.out (below_kept (grown_set _ _) hB hp)⟩, grown_set _ _⟩
    · rw [if_neg hcn] at HD
      have HD' : Hid (RowU B w (.slice (a.map (·.add n)) (xs.length - n) (cap - n)) (xs.drop n)) := HD
      clear hlt HD
      go_enter Try.func32, Try.ntmps32
      go_wp2
      go_ret
      rw [e1.out.1, e1.out.2.1, e1.out.2.2]
      refine ⟨_, rfl, RowU.kept HT.out (below_kept (grown_set _ _) hB hp), ⟨_, set0 H1.out, RowU.kept HD'.out (below_kept (grown_set _ _) hB hp)⟩, grown_set _ _⟩

/-- The number that some bytes make, the higher ones first. -/
def beN : List Int → Int := fun xs => xs.foldl (fun n x => n * 256 + x) 0
theorem beN_snoc (xs : List Int) (x : Int) : beN (xs ++ [x]) = beN xs * 256 + x := by unfold beN; rw [List.foldl_append]; rfl
theorem fold_range : ∀ (xs : List Int) (a : Int), (∀ x ∈ xs, 0 ≤ x ∧ x ≤ 255) → 0 ≤ a → 0 ≤ xs.foldl (fun n x => n * 256 + x) a ∧ xs.foldl (fun n x => n * 256 + x) a < (a + 1) * 256 ^ xs.length
  | [], a, _, h => by simp; omega
  | x :: xs, a, hr, h => by
    have hx := hr x (by simp)
    have ih := fold_range xs (a * 256 + x) (fun y hy => hr y (by simp [hy])) (by omega)
    refine ⟨ih.1, Int.lt_of_lt_of_le ih.2 ?_⟩
    rw [List.length_cons, Int.pow_succ, Int.mul_comm (256 ^ xs.length) 256, ← Int.mul_assoc]
    exact Int.mul_le_mul_of_nonneg_right (by omega) (Int.le_of_lt (Int.pow_pos (by decide)))
theorem beN_range (xs : List Int) (h : ∀ x ∈ xs, 0 ≤ x ∧ x ≤ 255) : 0 ≤ beN xs ∧ beN xs < 256 ^ xs.length := by
  have := fold_range xs 0 h (by decide)
  unfold beN
  simpa using this
theorem take_succ_nth {xs : List Int} {k : Nat} (h : k < xs.length) : xs.take (k + 1) = xs.take k ++ [nth xs k] := by
  rw [List.take_add_one, List.getElem?_eq_getElem h]; simp [nth, List.getElem?_eq_getElem h]

theorem or64 (m x : Int) (h0 : 0 ≤ m) (h1 : m < 16777216) (h2 : 0 ≤ x) (h3 : x ≤ 255) : bits .or .i64 (m * 256) x = m * 256 + x := by
  obtain ⟨M, rfl⟩ : ∃ M : Nat, m = M := ⟨m.toNat, by omega⟩
  obtain ⟨X, rfl⟩ : ∃ X : Nat, x = X := ⟨x.toNat, by omega⟩
  have e : bits .or .i64 ((M : Int) * 256) (X : Int) = IntKind.i64.wrap (((BitVec.ofInt 64 ((M : Int) * 256) ||| BitVec.ofInt 64 (X : Int)).toNat : Nat) : Int) := rfl
  have e1 := ofInt_u64 (M * 256) (by omega)
  have e2 := ofInt_u64 X (by omega)
  have e3 : ((M : Int) * 256) = ((M * 256 : Nat) : Int) := by omega
  have e4 : M * 256 ||| X = M * 256 + X := by
    have := Nat.two_pow_add_eq_or_of_lt (i := 8) (b := X) (by omega) M
    rw [Nat.mul_comm]
    exact this.symm
  rw [e, e3, BitVec.toNat_or, e1, e2, e4, IntKind.wrap_i64]
  omega
theorem val_eq {k : IntKind} {a b : Int} (h : a = b) : Value.int k a = .int k b := by rw [h]
theorem tkB_len (n : Nat) (xs : List Int) : (tkB n xs).length ≤ n := by unfold tkB; split; simp; rw [List.length_take]; omega
theorem tkB_range {n : Nat} {xs : List Int} (h : ∀ x ∈ xs, 0 ≤ x ∧ x ≤ 255) : ∀ x ∈ tkB n xs, 0 ≤ x ∧ x ≤ 255 := by
  unfold tkB; split
  · intro x hx; cases hx
  · exact fun x hx => h x (List.mem_of_mem_take hx)
theorem tkR_range {n : Nat} {xs : List Int} (h : ∀ x ∈ xs, 0 ≤ x ∧ x ≤ 255) : ∀ x ∈ tkR n xs, 0 ≤ x ∧ x ≤ 255 := by
  unfold tkR; split
  · intro x hx; cases hx
  · exact fun x hx => h x (List.mem_of_mem_drop hx)
theorem tkR_len (n : Nat) (xs : List Int) : (tkR n xs).length ≤ xs.length := by unfold tkR; split; simp; rw [List.length_drop]; omega

set_option maxHeartbeats 800000 in
theorem number_any (n p B : Nat) (xs : List Int) (sh : Bool) (w : World) (h : Rdr B w p xs sh) (hB : B ≤ p) (hn : n ≤ 4) (hx : xs.length ≤ 70000) (hr : ∀ x ∈ xs, 0 ≤ x ∧ x ≤ 255) :
    Calls Try.prog 26 #[.pointer (some ⟨p, 0, none⟩), .int .i64 n] w fun e w' => e = .returned (.int .i64 (beN (tkB n xs))) ∧ Rdr B w' p (tkR n xs) (tkS n xs sh) ∧ w.grownBy w' (some p) := by
  have hp := h.lt
  have hl4 := tkB_len n xs
  have hrg := tkB_range (n := n) hr
  go_enter Try.func26, Try.ntmps26
  go_wp2_with fail
  refine (take_any n p B xs sh _ h hB (by omega) hx).mono ?_
  rintro e w1 ⟨v1, rfl, u1, r1, g1⟩
  obtain ⟨ys, HY⟩ : ∃ ys, Hid (tkB n xs = ys) := ⟨_, rfl⟩
  rw [HY.out] at u1 hl4 hrg
  have R1 : Hid (Rdr B w1 p (tkR n xs) (tkS n xs sh)) := r1
  obtain ⟨a, cap, rfl, hcap, hc, _⟩ := u1
  clear r1 h
  go_wp2_with fail
  go_loop [5, 7, 12] (fun v _ i => ∃ k : Nat, k ≤ ys.length ∧ i = .int .i64 k ∧ v = .int .i64 (beN (ys.take k))) (fun _ _ i => ys.length - (intOf i).toNat)
  case atStart => exact ⟨0, by omega, rfl, rfl⟩
  case round =>
    obtain ⟨k, hk, rfl, rfl⟩ := hrel
    by_cases hlt : k < ys.length
    · rcases hc with hc | ⟨b, off, rfl, hb, hcell⟩
      · exact absurd hlt (by rw [hc]; simp)
      have hc1 := hcell k hlt
      have hx1 := range_at hrg k
      have HM : Hid (beN (ys.take (k + 1)) = beN (ys.take k) * 256 + nth ys k) := by show _ = _; rw [take_succ_nth hlt, beN_snoc]
      have hbn := beN_range (ys.take k) (fun x hx => hrg x (List.mem_of_mem_take hx))
      have hb2 : beN (ys.take k) < 16777216 := by
        have : (256 : Int) ^ (ys.take k).length ≤ 256 ^ 3 := by
          have h3 : (ys.take k).length ≤ 3 := by rw [List.length_take]; omega
          generalize (ys.take k).length = q at h3
          match q, h3 with
          | 0, _ => decide
          | 1, _ => decide
          | 2, _ => decide
          | 3, _ => decide
        have e : (256 : Int) ^ 3 = 16777216 := rfl
        omega
      generalize beN (ys.take k) = m at hbn hb2 HM
      have hb0 := hbn.1
      clear hcell hbn
      go_wp2
      exact ⟨⟨k + 1, by omega, by go_num, val_eq (by rw [or64 _ _ hb0 hb2 hx1.1 hx1.2, HM.out])⟩, by simp [intOf]; omega⟩
    · obtain rfl : k = ys.length := by omega
      go_wp2
      go_ret
      exact ⟨by rw [HY.out]; rfl, R1.out, g1⟩

/-- A text that is taken: its length first. -/
def txtN (n : Nat) (xs : List Int) : Nat := (beN (tkB n xs)).toNat
def txtB (n : Nat) (xs : List Int) : ByteArray := strOfNums (tkB (txtN n xs) (tkR n xs))
def txtR (n : Nat) (xs : List Int) : List Int := tkR (txtN n xs) (tkR n xs)
def txtS (n : Nat) (xs : List Int) (sh : Bool) : Bool := tkS (txtN n xs) (tkR n xs) (tkS n xs sh)
theorem txtN_le (n : Nat) (xs : List Int) (hn : n ≤ 2) (hr : ∀ x ∈ xs, 0 ≤ x ∧ x ≤ 255) : txtN n xs ≤ 65535 ∧ beN (tkB n xs) = (txtN n xs : Int) := by
  have h1 := beN_range _ (tkB_range (n := n) hr)
  have h2 := tkB_len n xs
  have h3 : (256 : Int) ^ (tkB n xs).length ≤ 65536 := by
    generalize (tkB n xs).length = q at h2
    have h3 : q ≤ 2 := by omega
    match q, h3 with
    | 0, _ => decide
    | 1, _ => decide
    | 2, _ => decide
  unfold txtN
  omega
theorem run_convert_zero {P : Program} (w : World) (src e : TypeId) (hs : P.underlying src = some (.slice e)) (he : P.underlying e = some (.int .u8)) (a : Option Addr) (c : Nat) (dst : TypeId) (hd : P.underlying dst = some .string) :
    (convert src dst (.slice a 0 c)).run P w = .ok (.string (strOfNums [])) w := by
  cases a with
  | none => rw [run_convert_bytes_nil w src e hs he 0 c dst hd]; rfl
  | some ad =>
    unfold convert
    simp [run_underlying hs, run_underlying he, run_underlying hd]
    rfl
theorem run_convert_row {P : Program} (w : World) (B : Nat) (src e dst : TypeId) (hs : P.underlying src = some (.slice e)) (he : P.underlying e = some (.int .u8)) (hd : P.underlying dst = some .string)
    (v : Value) (zs : List Int) (h : RowU B w v zs) : (convert src dst v).run P w = .ok (.string (strOfNums zs)) w := by
  obtain ⟨a, cap, rfl, hc, h, _⟩ := h
  rcases h with rfl | ⟨b, off, rfl, hb, h⟩
  · exact run_convert_zero w src e hs he a cap dst hd
  · refine run_convert_bytes_arg w src e hs he b off zs.length cap zs rfl (fun i hi => ?_) dst hd
    exact h i hi

set_option maxHeartbeats 800000 in
theorem text_any (n p B : Nat) (xs : List Int) (sh : Bool) (w : World) (h : Rdr B w p xs sh) (hB : B ≤ p) (hn : n ≤ 2) (hx : xs.length ≤ 70000) (hr : ∀ x ∈ xs, 0 ≤ x ∧ x ≤ 255) :
    Calls Try.prog 33 #[.pointer (some ⟨p, 0, none⟩), .int .i64 n] w fun e w' => e = .returned (.string (txtB n xs)) ∧ Rdr B w' p (txtR n xs) (txtS n xs sh) ∧ w.grownBy w' (some p) := by
  have hp := h.lt
  obtain ⟨t1, t2⟩ := txtN_le n xs hn hr
  have T2 : Hid (_) := t2
  clear t2
  go_enter Try.func33, Try.ntmps33
  go_wp2_with fail
  refine (number_any n p B xs sh _ h hB (by omega) hx hr).mono ?_
  rintro e w1 ⟨rfl, r1, g1⟩
  rw [T2.out]
  go_wp2_with fail
  refine (take_any (txtN n xs) p B _ _ _ r1 hB (by omega) (Nat.le_trans (tkR_len _ _) hx)).mono ?_
  rintro e w2 ⟨v2, rfl, u2, r2, g2⟩
  have hcv := run_convert_row (P := Try.prog) w2 B 50 5 9 Try.underlying50 Try.underlying5 Try.underlying9 v2 _ u2
  clear u2 r1
  go_wp2
  go_ret
  exact ⟨rfl, r2, grown_trans g1 g2⟩
end Go.Proofs.Ytkmnjnblacmjlaa.Rr
