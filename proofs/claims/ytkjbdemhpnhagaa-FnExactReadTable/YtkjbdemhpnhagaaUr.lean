/- A table is taken off the wire: what was seen, locks (impl.takeSeen, takeLock). -/
import Derived.Test.YtkjbdemhpnhagaaRdt
import Derived.Test.YtkjbdemhpnhagaaOl
namespace Go.Proofs.Ytkjbdemhpnhagaa.Ur
open Go.RowKit Go.Proofs.Ytkjbdemhpnhagaa.Sl Go.Proofs.Ytkjbdemhpnhagaa.By Go.Proofs.Ytkjbdemhpnhagaa.Ap Go.Proofs.Ytkjbdemhpnhagaa.Rr Go.Proofs.Ytkjbdemhpnhagaa.Tb Go.Proofs.Ytkjbdemhpnhagaa.Tw
open Go.Proofs.Ytkjbdemhpnhagaa.Wa (OwnW appW infoW)

def nv (n : Nat) (xs : List Int) : Int := beN (tkB n xs)
theorem pow_pos' : ∀ n : Nat, (0 : Int) < 256 ^ n
  | 0 => by decide
  | n + 1 => by rw [Int.pow_succ]; have := pow_pos' n; omega
theorem nv_range {n : Nat} {xs : List Int} (h : ∀ x ∈ xs, 0 ≤ x ∧ x ≤ 255) : 0 ≤ nv n xs ∧ nv n xs < 256 ^ n := by
  obtain ⟨h1, h2⟩ := beN_range (tkB n xs) (tkB_range h)
  refine ⟨h1, ?_⟩
  unfold nv
  by_cases hl : xs.length < n
  · have e : tkB n xs = [] := if_pos hl
    rw [e]
    exact pow_pos' n
  · have e : (tkB n xs).length = n := by unfold tkB; rw [if_neg hl, List.length_take]; omega
    rw [e] at h2
    exact h2
/-- One after the other. -/
def itR (f : List Int → List Int) : Nat → List Int → List Int
  | 0, xs => xs
  | k + 1, xs => f (itR f k xs)
def itS (f : List Int → List Int) (g : List Int → Bool → Bool) : Nat → List Int → Bool → Bool
  | 0, _, sh => sh
  | k + 1, xs, sh => g (itR f k xs) (itS f g k xs sh)
def itL {α : Type} (f : List Int → List Int) (o : List Int → α) : Nat → List Int → List α
  | 0, _ => []
  | k + 1, xs => itL f o k xs ++ [o (itR f k xs)]
theorem itL_len {α : Type} (f : List Int → List Int) (o : List Int → α) (xs : List Int) : ∀ k, (itL f o k xs).length = k
  | 0 => rfl
  | k + 1 => by unfold itL; rw [List.length_append, itL_len f o xs k]; rfl
/-- What is left is of what was there. -/
def Less (f : List Int → List Int) : Prop := ∀ xs : List Int, (f xs).length ≤ xs.length ∧ ((∀ x ∈ xs, 0 ≤ x ∧ x ≤ 255) → ∀ x ∈ f xs, 0 ≤ x ∧ x ≤ 255)
theorem less_tk (n : Nat) : Less (tkR n) := fun xs => ⟨tkR_len n xs, fun h => tkR_range h⟩
theorem less_txt (n : Nat) : Less (txtR n) := fun xs => ⟨txtR_len n xs, fun h => txtR_range h⟩
theorem Less.comp {f g : List Int → List Int} (hf : Less f) (hg : Less g) : Less (fun xs => f (g xs)) := fun xs => ⟨Nat.le_trans (hf (g xs)).1 (hg xs).1, fun h => (hf (g xs)).2 ((hg xs).2 h)⟩
theorem less_it {f : List Int → List Int} (hf : Less f) : ∀ k, Less (itR f k)
  | 0 => fun _ => ⟨Nat.le_refl _, fun h => h⟩
  | k + 1 => hf.comp (less_it hf k)

/-- Things that are read: one that waits, a lock, what was seen. -/
def wtO (xs : List Int) : Wt := ⟨nv 1 xs, nv 2 (tkR 1 xs)⟩
def wtR (xs : List Int) : List Int := tkR 2 (tkR 1 xs)
def wtS (xs : List Int) (sh : Bool) : Bool := tkS 2 (tkR 1 xs) (tkS 1 xs sh)
theorem less_wt : Less wtR := (less_tk 2).comp (less_tk 1)
def lk3 (xs : List Int) : List Int := tkR 4 (tkR 2 (tkR 3 (txtR 1 xs)))
def cnt (xs : List Int) : Nat := (nv 1 xs).toNat
def lkO (xs : List Int) : Lk := ⟨txtB 1 xs, nv 3 (txtR 1 xs), nv 2 (tkR 3 (txtR 1 xs)) - 1, nv 4 (tkR 2 (tkR 3 (txtR 1 xs))), itL wtR wtO (cnt (lk3 xs)) (tkR 1 (lk3 xs))⟩
def lkR (xs : List Int) : List Int := itR wtR (cnt (lk3 xs)) (tkR 1 (lk3 xs))
def lkS3 (xs : List Int) (sh : Bool) : Bool := tkS 4 (tkR 2 (tkR 3 (txtR 1 xs))) (tkS 2 (tkR 3 (txtR 1 xs)) (tkS 3 (txtR 1 xs) (txtS 1 xs sh)))
def lkS (xs : List Int) (sh : Bool) : Bool := itS wtR wtS (cnt (lk3 xs)) (tkR 1 (lk3 xs)) (tkS 1 (lk3 xs) (lkS3 xs sh))
theorem less_lk3 : Less lk3 := (less_tk 4).comp ((less_tk 2).comp ((less_tk 3).comp (less_txt 1)))
theorem less_lk : Less lkR := fun xs => ((less_it less_wt (cnt (lk3 xs))).comp ((less_tk 1).comp less_lk3)) xs
def sn5 (xs : List Int) : List Int := tkR 2 (tkR 3 (tkR 1 (tkR 2 (tkR 1 xs))))
def snO (xs : List Int) : Sn := ⟨nv 1 xs, nv 2 (tkR 1 xs), nv 1 (tkR 2 (tkR 1 xs)), nv 3 (tkR 1 (tkR 2 (tkR 1 xs))), nv 2 (tkR 3 (tkR 1 (tkR 2 (tkR 1 xs)))) - 1, nv 4 (sn5 xs)⟩
def snR (xs : List Int) : List Int := tkR 4 (sn5 xs)
def snS (xs : List Int) (sh : Bool) : Bool := tkS 4 (sn5 xs) (tkS 2 (tkR 3 (tkR 1 (tkR 2 (tkR 1 xs)))) (tkS 3 (tkR 1 (tkR 2 (tkR 1 xs))) (tkS 1 (tkR 2 (tkR 1 xs)) (tkS 2 (tkR 1 xs) (tkS 1 xs sh)))))
theorem less_sn : Less snR := (less_tk 4).comp ((less_tk 2).comp ((less_tk 3).comp ((less_tk 1).comp ((less_tk 2).comp (less_tk 1)))))

/-- While a struct is read: its block, the answer's, the reader. -/
structure Lc (w W : World) (p B : Nat) (t : TypeId) (z cs : Array Value) (xs : List Int) (sh : Bool) : Prop where
  a : W.heap[w.heap.size]? = some (.cells z t (0, 0))
  b : W.heap[w.heap.size + 1]? = some (.cells cs t (0, 0))
  rd : Rdr B W p xs sh
  gr : w.grownBy W (some p)
  pl : p < w.heap.size ∧ B ≤ p
theorem size_new (w : World) (o : Obj) : (w.alloc o).heap.size = w.heap.size + 1 := by simp
theorem Lc.start {w : World} {p B : Nat} {xs : List Int} {sh : Bool} (h : Rdr B w p xs sh) (hB : B ≤ p) (t : TypeId) (z : Array Value) : Lc w ((w.alloc (.cells z t)).alloc (.cells z t)) p B t z z xs sh := by
  refine ⟨(Below.heap_alloc _ _ _ (by simp)).trans (blk_new _ _ _), ?_, rdr_alloc (rdr_alloc h hB _) hB _, grown_alloc (grown_alloc (grown_refl _ _) _) _, h.lt, hB⟩
  have := blk_new (w.alloc (.cells z t)) z t
  rw [size_new] at this
  exact this
theorem Lc.num {w W W' : World} {p B : Nat} {t : TypeId} {z cs : Array Value} {xs ys : List Int} {sh sb : Bool} (h : Lc w W p B t z cs xs sh) (r : Rdr B W' p ys sb) (g : W.grownBy W' (some p)) : Lc w W' p B t z cs ys sb :=
  ⟨blk_kept h.a g (by have := h.pl; omega), blk_kept h.b g (by have := h.pl; omega), r, grown_trans h.gr g, h.pl⟩
theorem Lc.set {w W : World} {p B : Nat} {t : TypeId} {z cs : Array Value} {xs : List Int} {sh : Bool} (h : Lc w W p B t z cs xs sh) (i : Nat) (v : Value) : Lc w (W.setCell ⟨w.heap.size + 1, i, none⟩ v) p B t z (cs.setIfInBounds i v) xs sh :=
  ⟨(blk_far (by omega) i v).trans h.a, blk_set h.b i v, rdr_set h.rd (by have := h.pl; omega) (by have := h.pl; omega) i v, grown_new h.gr (by omega) i v, h.pl⟩
theorem Lc.far {w W : World} {p B : Nat} {t : TypeId} {z cs : Array Value} {xs : List Int} {sh : Bool} (h : Lc w W p B t z cs xs sh) (q : Nat) (hq : w.heap.size + 2 ≤ q) (i : Nat) (v : Value) : Lc w (W.setCell ⟨q, i, none⟩ v) p B t z cs xs sh :=
  ⟨(blk_far (by omega) i v).trans h.a, (blk_far (by omega) i v).trans h.b, rdr_set h.rd (by have := h.pl; omega) (by have := h.pl; omega) i v, grown_new h.gr (by omega) i v, h.pl⟩
theorem Lc.alloc {w W : World} {p B : Nat} {t : TypeId} {z cs : Array Value} {xs : List Int} {sh : Bool} (h : Lc w W p B t z cs xs sh) (o : Obj) : Lc w (W.alloc o) p B t z cs xs sh :=
  ⟨(Below.heap_alloc _ _ _ (Array.getElem?_eq_some_iff.1 h.a).1).trans h.a, (Below.heap_alloc _ _ _ (Array.getElem?_eq_some_iff.1 h.b).1).trans h.b, rdr_alloc h.rd h.pl.2 o, grown_alloc h.gr o, h.pl⟩
theorem Lc.far0 {w W : World} {p B : Nat} {t : TypeId} {z cs : Array Value} {xs : List Int} {sh : Bool} (h : Lc w W p B t z cs xs sh) (i : Nat) (v : Value) : Lc w (W.setCell ⟨w.heap.size, i, none⟩ v) p B t (z.setIfInBounds i v) cs xs sh :=
  ⟨blk_set h.a i v, (blk_far (by omega) i v).trans h.b, rdr_set h.rd (by have := h.pl; omega) (by have := h.pl; omega) i v, grown_new h.gr (Nat.le_refl _) i v, h.pl⟩
theorem Lc.size {w W : World} {p B : Nat} {t : TypeId} {z cs : Array Value} {xs : List Int} {sh : Bool} (h : Lc w W p B t z cs xs sh) : w.heap.size + 2 ≤ W.heap.size := by
  have := (Array.getElem?_eq_some_iff.1 h.b).1
  omega

set_option maxRecDepth 100000 in
set_option maxHeartbeats 3200000 in
theorem takeSeen_any (p B : Nat) (xs : List Int) (sh : Bool) (w : World) (h : Rdr B w p xs sh) (hB : B ≤ p) (hx : xs.length ≤ 70000) (hr : ∀ x ∈ xs, 0 ≤ x ∧ x ≤ 255) :
    Calls Try.prog 78 #[.pointer (some ⟨p, 0, none⟩)] w fun e w' => e = .returned (snV (snO xs)) ∧ Rdr B w' p (snR xs) (snS xs sh) ∧ w.grownBy w' (some p) := by
  have L0 : Hid (Lc w ((w.alloc (.cells #[.int .i64 0, .int .i64 0, .int .i64 0, .int .i64 0, .int .i64 0, .int .i64 0] 65)).alloc (.cells #[.int .i64 0, .int .i64 0, .int .i64 0, .int .i64 0, .int .i64 0, .int .i64 0] 65)) p B 65 #[.int .i64 0, .int .i64 0, .int .i64 0, .int .i64 0, .int .i64 0, .int .i64 0] #[.int .i64 0, .int .i64 0, .int .i64 0, .int .i64 0, .int .i64 0, .int .i64 0] xs sh) := Lc.start h hB _ _
  have HR0 : Hid (∀ x ∈ xs, 0 ≤ x ∧ x ≤ 255) := hr
  have HX0 : Hid (xs.length ≤ 70000) := hx
  clear h hr hx
  go_enter Try.func78, Try.ntmps78
  go_wp2_with fail
  generalize (w.alloc (.cells #[.int .i64 0, .int .i64 0, .int .i64 0, .int .i64 0, .int .i64 0, .int .i64 0] 65)).alloc (.cells #[.int .i64 0, .int .i64 0, .int .i64 0, .int .i64 0, .int .i64 0, .int .i64 0] 65) = w0 at L0 ⊢
  have N0 := number_any 1 p B xs sh _ L0.out.rd hB (by decide) HX0.out HR0.out
  have nb0 := nv_range (n := 1) HR0.out
  have HR1 : Hid (∀ x ∈ (tkR 1 xs), 0 ≤ x ∧ x ≤ 255) := tkR_range HR0.out
  have HX1 : Hid (((tkR 1 xs)).length ≤ 70000) := Nat.le_trans (tkR_len _ _) HX0.out
  unfold nv at nb0
  obtain ⟨z0, HZ0⟩ : ∃ z, Hid (beN (tkB 1 xs) = z) := ⟨_, rfl⟩
  rw [HZ0.out] at N0 nb0
  simp only [show ((256 : Int) ^ 1) = 256 from rfl] at nb0
  refine N0.mono ?_
  rintro e w1 ⟨rfl, r, g⟩
  have l := L0.out.num r g
  obtain ⟨c, f⟩ := blk_cell l.b 0 (x := .int .i64 0) rfl
  have L1 : Hid (Lc w (w1.setCell ⟨w.heap.size + 1, 0, none⟩ (.int .i64 z0)) p B 65 #[.int .i64 0, .int .i64 0, .int .i64 0, .int .i64 0, .int .i64 0, .int .i64 0] #[.int .i64 z0, .int .i64 0, .int .i64 0, .int .i64 0, .int .i64 0, .int .i64 0] (tkR 1 xs) (tkS 1 xs sh)) := l.set 0 _
  clear l r g L0 N0 HR0 HX0
  go_wp2_with fail
  clear c f nb0
  generalize w1.setCell ⟨w.heap.size + 1, 0, none⟩ (.int .i64 z0) = w1' at L1 ⊢
  have N1 := number_any 2 p B (tkR 1 xs) (tkS 1 xs sh) _ L1.out.rd hB (by decide) HX1.out HR1.out
  have nb1 := nv_range (n := 2) HR1.out
  have HR2 : Hid (∀ x ∈ (tkR 2 (tkR 1 xs)), 0 ≤ x ∧ x ≤ 255) := tkR_range HR1.out
  have HX2 : Hid (((tkR 2 (tkR 1 xs))).length ≤ 70000) := Nat.le_trans (tkR_len _ _) HX1.out
  unfold nv at nb1
  obtain ⟨z1, HZ1⟩ : ∃ z, Hid (beN (tkB 2 (tkR 1 xs)) = z) := ⟨_, rfl⟩
  rw [HZ1.out] at N1 nb1
  simp only [show ((256 : Int) ^ 2) = 65536 from rfl] at nb1
  refine N1.mono ?_
  rintro e w2 ⟨rfl, r, g⟩
  have l := L1.out.num r g
  obtain ⟨c, f⟩ := blk_cell l.b 1 (x := .int .i64 0) rfl
  have L2 : Hid (Lc w (w2.setCell ⟨w.heap.size + 1, 1, none⟩ (.int .i64 z1)) p B 65 #[.int .i64 0, .int .i64 0, .int .i64 0, .int .i64 0, .int .i64 0, .int .i64 0] #[.int .i64 z0, .int .i64 z1, .int .i64 0, .int .i64 0, .int .i64 0, .int .i64 0] (tkR 2 (tkR 1 xs)) (tkS 2 (tkR 1 xs) (tkS 1 xs sh))) := l.set 1 _
  clear l r g L1 N1 HR1 HX1
  go_wp2_with fail
  clear c f nb1
  generalize w2.setCell ⟨w.heap.size + 1, 1, none⟩ (.int .i64 z1) = w2' at L2 ⊢
  have N2 := number_any 1 p B (tkR 2 (tkR 1 xs)) (tkS 2 (tkR 1 xs) (tkS 1 xs sh)) _ L2.out.rd hB (by decide) HX2.out HR2.out
  have nb2 := nv_range (n := 1) HR2.out
  have HR3 : Hid (∀ x ∈ (tkR 1 (tkR 2 (tkR 1 xs))), 0 ≤ x ∧ x ≤ 255) := tkR_range HR2.out
  have HX3 : Hid (((tkR 1 (tkR 2 (tkR 1 xs)))).length ≤ 70000) := Nat.le_trans (tkR_len _ _) HX2.out
  unfold nv at nb2
  obtain ⟨z2, HZ2⟩ : ∃ z, Hid (beN (tkB 1 (tkR 2 (tkR 1 xs))) = z) := ⟨_, rfl⟩
  rw [HZ2.out] at N2 nb2
  simp only [show ((256 : Int) ^ 1) = 256 from rfl] at nb2
  refine N2.mono ?_
  rintro e w3 ⟨rfl, r, g⟩
  have l := L2.out.num r g
  obtain ⟨c, f⟩ := blk_cell l.b 2 (x := .int .i64 0) rfl
  have L3 : Hid (Lc w (w3.setCell ⟨w.heap.size + 1, 2, none⟩ (.int .i64 z2)) p B 65 #[.int .i64 0, .int .i64 0, .int .i64 0, .int .i64 0, .int .i64 0, .int .i64 0] #[.int .i64 z0, .int .i64 z1, .int .i64 z2, .int .i64 0, .int .i64 0, .int .i64 0] (tkR 1 (tkR 2 (tkR 1 xs))) (tkS 1 (tkR 2 (tkR 1 xs)) (tkS 2 (tkR 1 xs) (tkS 1 xs sh)))) := l.set 2 _
  clear l r g L2 N2 HR2 HX2
  go_wp2_with fail
  clear c f nb2
  generalize w3.setCell ⟨w.heap.size + 1, 2, none⟩ (.int .i64 z2) = w3' at L3 ⊢
  have N3 := number_any 3 p B (tkR 1 (tkR 2 (tkR 1 xs))) (tkS 1 (tkR 2 (tkR 1 xs)) (tkS 2 (tkR 1 xs) (tkS 1 xs sh))) _ L3.out.rd hB (by decide) HX3.out HR3.out
  have nb3 := nv_range (n := 3) HR3.out
  have HR4 : Hid (∀ x ∈ (tkR 3 (tkR 1 (tkR 2 (tkR 1 xs)))), 0 ≤ x ∧ x ≤ 255) := tkR_range HR3.out
  have HX4 : Hid (((tkR 3 (tkR 1 (tkR 2 (tkR 1 xs))))).length ≤ 70000) := Nat.le_trans (tkR_len _ _) HX3.out
  unfold nv at nb3
  obtain ⟨z3, HZ3⟩ : ∃ z, Hid (beN (tkB 3 (tkR 1 (tkR 2 (tkR 1 xs)))) = z) := ⟨_, rfl⟩
  rw [HZ3.out] at N3 nb3
  simp only [show ((256 : Int) ^ 3) = 16777216 from rfl] at nb3
  refine N3.mono ?_
  rintro e w4 ⟨rfl, r, g⟩
  have l := L3.out.num r g
  obtain ⟨c, f⟩ := blk_cell l.b 3 (x := .int .i64 0) rfl
  have L4 : Hid (Lc w (w4.setCell ⟨w.heap.size + 1, 3, none⟩ (.int .i64 z3)) p B 65 #[.int .i64 0, .int .i64 0, .int .i64 0, .int .i64 0, .int .i64 0, .int .i64 0] #[.int .i64 z0, .int .i64 z1, .int .i64 z2, .int .i64 z3, .int .i64 0, .int .i64 0] (tkR 3 (tkR 1 (tkR 2 (tkR 1 xs)))) (tkS 3 (tkR 1 (tkR 2 (tkR 1 xs))) (tkS 1 (tkR 2 (tkR 1 xs)) (tkS 2 (tkR 1 xs) (tkS 1 xs sh))))) := l.set 3 _
  clear l r g L3 N3 HR3 HX3
  go_wp2_with fail
  clear c f nb3
  generalize w4.setCell ⟨w.heap.size + 1, 3, none⟩ (.int .i64 z3) = w4' at L4 ⊢
  have N4 := number_any 2 p B (tkR 3 (tkR 1 (tkR 2 (tkR 1 xs)))) (tkS 3 (tkR 1 (tkR 2 (tkR 1 xs))) (tkS 1 (tkR 2 (tkR 1 xs)) (tkS 2 (tkR 1 xs) (tkS 1 xs sh)))) _ L4.out.rd hB (by decide) HX4.out HR4.out
  have nb4 := nv_range (n := 2) HR4.out
  have HR5 : Hid (∀ x ∈ (tkR 2 (tkR 3 (tkR 1 (tkR 2 (tkR 1 xs))))), 0 ≤ x ∧ x ≤ 255) := tkR_range HR4.out
  have HX5 : Hid (((tkR 2 (tkR 3 (tkR 1 (tkR 2 (tkR 1 xs)))))).length ≤ 70000) := Nat.le_trans (tkR_len _ _) HX4.out
  unfold nv at nb4
  obtain ⟨z4, HZ4⟩ : ∃ z, Hid (beN (tkB 2 (tkR 3 (tkR 1 (tkR 2 (tkR 1 xs))))) = z) := ⟨_, rfl⟩
  rw [HZ4.out] at N4 nb4
  simp only [show ((256 : Int) ^ 2) = 65536 from rfl] at nb4
  refine N4.mono ?_
  rintro e w5 ⟨rfl, r, g⟩
  have l := L4.out.num r g
  obtain ⟨c, f⟩ := blk_cell l.b 4 (x := .int .i64 0) rfl
  have L5 : Hid (Lc w (w5.setCell ⟨w.heap.size + 1, 4, none⟩ (.int .i64 (z4 - 1))) p B 65 #[.int .i64 0, .int .i64 0, .int .i64 0, .int .i64 0, .int .i64 0, .int .i64 0] #[.int .i64 z0, .int .i64 z1, .int .i64 z2, .int .i64 z3, .int .i64 (z4 - 1), .int .i64 0] (tkR 2 (tkR 3 (tkR 1 (tkR 2 (tkR 1 xs))))) (tkS 2 (tkR 3 (tkR 1 (tkR 2 (tkR 1 xs)))) (tkS 3 (tkR 1 (tkR 2 (tkR 1 xs))) (tkS 1 (tkR 2 (tkR 1 xs)) (tkS 2 (tkR 1 xs) (tkS 1 xs sh)))))) := l.set 4 _
  clear l r g L4 N4 HR4 HX4
  go_wp2_with fail
  clear c f nb4
  generalize w5.setCell ⟨w.heap.size + 1, 4, none⟩ (.int .i64 (z4 - 1)) = w5' at L5 ⊢
  have N5 := number_any 4 p B (tkR 2 (tkR 3 (tkR 1 (tkR 2 (tkR 1 xs))))) (tkS 2 (tkR 3 (tkR 1 (tkR 2 (tkR 1 xs)))) (tkS 3 (tkR 1 (tkR 2 (tkR 1 xs))) (tkS 1 (tkR 2 (tkR 1 xs)) (tkS 2 (tkR 1 xs) (tkS 1 xs sh))))) _ L5.out.rd hB (by decide) HX5.out HR5.out
  have nb5 := nv_range (n := 4) HR5.out
  have HR6 : Hid (∀ x ∈ (tkR 4 (tkR 2 (tkR 3 (tkR 1 (tkR 2 (tkR 1 xs)))))), 0 ≤ x ∧ x ≤ 255) := tkR_range HR5.out
  have HX6 : Hid (((tkR 4 (tkR 2 (tkR 3 (tkR 1 (tkR 2 (tkR 1 xs))))))).length ≤ 70000) := Nat.le_trans (tkR_len _ _) HX5.out
  unfold nv at nb5
  obtain ⟨z5, HZ5⟩ : ∃ z, Hid (beN (tkB 4 (tkR 2 (tkR 3 (tkR 1 (tkR 2 (tkR 1 xs)))))) = z) := ⟨_, rfl⟩
  rw [HZ5.out] at N5 nb5
  simp only [show ((256 : Int) ^ 4) = 4294967296 from rfl] at nb5
  refine N5.mono ?_
  rintro e w6 ⟨rfl, r, g⟩
  have l := L5.out.num r g
  obtain ⟨c, f⟩ := blk_cell l.b 5 (x := .int .i64 0) rfl
  have L6 : Hid (Lc w (w6.setCell ⟨w.heap.size + 1, 5, none⟩ (.int .i64 z5)) p B 65 #[.int .i64 0, .int .i64 0, .int .i64 0, .int .i64 0, .int .i64 0, .int .i64 0] #[.int .i64 z0, .int .i64 z1, .int .i64 z2, .int .i64 z3, .int .i64 (z4 - 1), .int .i64 z5] (tkR 4 (tkR 2 (tkR 3 (tkR 1 (tkR 2 (tkR 1 xs)))))) (tkS 4 (tkR 2 (tkR 3 (tkR 1 (tkR 2 (tkR 1 xs))))) (tkS 2 (tkR 3 (tkR 1 (tkR 2 (tkR 1 xs)))) (tkS 3 (tkR 1 (tkR 2 (tkR 1 xs))) (tkS 1 (tkR 2 (tkR 1 xs)) (tkS 2 (tkR 1 xs) (tkS 1 xs sh))))))) := l.set 5 _
  clear l r g L5 N5 HR5 HX5
  go_upto_region 8 with fail
  clear c f nb5
  generalize w6.setCell ⟨w.heap.size + 1, 5, none⟩ (.int .i64 z5) = w6' at L6 ⊢
  have HE : Hid (snV (snO xs) = .agg #[.int .i64 z0, .int .i64 z1, .int .i64 z2, .int .i64 z3, .int .i64 (z4 - 1), .int .i64 z5]) := by
    show _ = _
    unfold snV snO nv sn5
    rw [HZ0.out, HZ1.out, HZ2.out, HZ3.out, HZ4.out, HZ5.out]
  obtain ⟨ca0, fa0⟩ := blk_cell L6.out.a 0 (x := .int .i64 0) rfl
  have cb0 := (blk_cell L6.out.b 0 (x := .int .i64 z0) rfl).1
  obtain ⟨ca1, fa1⟩ := blk_cell L6.out.a 1 (x := .int .i64 0) rfl
  have cb1 := (blk_cell L6.out.b 1 (x := .int .i64 z1) rfl).1
  obtain ⟨ca2, fa2⟩ := blk_cell L6.out.a 2 (x := .int .i64 0) rfl
  have cb2 := (blk_cell L6.out.b 2 (x := .int .i64 z2) rfl).1
  obtain ⟨ca3, fa3⟩ := blk_cell L6.out.a 3 (x := .int .i64 0) rfl
  have cb3 := (blk_cell L6.out.b 3 (x := .int .i64 z3) rfl).1
  obtain ⟨ca4, fa4⟩ := blk_cell L6.out.a 4 (x := .int .i64 0) rfl
  have cb4 := (blk_cell L6.out.b 4 (x := .int .i64 (z4 - 1)) rfl).1
  obtain ⟨ca5, fa5⟩ := blk_cell L6.out.a 5 (x := .int .i64 0) rfl
  have cb5 := (blk_cell L6.out.b 5 (x := .int .i64 z5) rfl).1
  have LF : Hid (Lc w ((((((w6'.setCell ⟨w.heap.size, 0, none⟩ (.int .i64 z0)).setCell ⟨w.heap.size, 1, none⟩ (.int .i64 z1)).setCell ⟨w.heap.size, 2, none⟩ (.int .i64 z2)).setCell ⟨w.heap.size, 3, none⟩ (.int .i64 z3)).setCell ⟨w.heap.size, 4, none⟩ (.int .i64 (z4 - 1))).setCell ⟨w.heap.size, 5, none⟩ (.int .i64 z5)) p B 65 #[.int .i64 z0, .int .i64 z1, .int .i64 z2, .int .i64 z3, .int .i64 (z4 - 1), .int .i64 z5] #[.int .i64 z0, .int .i64 z1, .int .i64 z2, .int .i64 z3, .int .i64 (z4 - 1), .int .i64 z5] (tkR 4 (tkR 2 (tkR 3 (tkR 1 (tkR 2 (tkR 1 xs)))))) (tkS 4 (tkR 2 (tkR 3 (tkR 1 (tkR 2 (tkR 1 xs))))) (tkS 2 (tkR 3 (tkR 1 (tkR 2 (tkR 1 xs)))) (tkS 3 (tkR 1 (tkR 2 (tkR 1 xs))) (tkS 1 (tkR 2 (tkR 1 xs)) (tkS 2 (tkR 1 xs) (tkS 1 xs sh))))))) := L6.out.far0 0 _ |>.far0 1 _ |>.far0 2 _ |>.far0 3 _ |>.far0 4 _ |>.far0 5 _
  clear L6 HR6 HX6
  go_wp2_with fail
  generalize ((((((w6'.setCell ⟨w.heap.size, 0, none⟩ (.int .i64 z0)).setCell ⟨w.heap.size, 1, none⟩ (.int .i64 z1)).setCell ⟨w.heap.size, 2, none⟩ (.int .i64 z2)).setCell ⟨w.heap.size, 3, none⟩ (.int .i64 z3)).setCell ⟨w.heap.size, 4, none⟩ (.int .i64 (z4 - 1))).setCell ⟨w.heap.size, 5, none⟩ (.int .i64 z5)) = wf at LF ⊢
  have d0 := (blk_cell LF.out.a 0 (x := .int .i64 z0) rfl).1
  have d1 := (blk_cell LF.out.a 1 (x := .int .i64 z1) rfl).1
  have d2 := (blk_cell LF.out.a 2 (x := .int .i64 z2) rfl).1
  have d3 := (blk_cell LF.out.a 3 (x := .int .i64 z3) rfl).1
  have d4 := (blk_cell LF.out.a 4 (x := .int .i64 (z4 - 1)) rfl).1
  have d5 := (blk_cell LF.out.a 5 (x := .int .i64 z5) rfl).1
  exact bodyPost_ret (v := .agg #[.int .i64 z0, .int .i64 z1, .int .i64 z2, .int .i64 z3, .int .i64 (z4 - 1), .int .i64 z5]) (by simp [results, Try.results78, go_sem, d0, d1, d2, d3, d4, d5]) rfl ⟨by rw [HE.out], LF.out.rd, LF.out.gr⟩
end Go.Proofs.Ytkjbdemhpnhagaa.Ur
