/- Texts put together: Ur, Us, Ut. -/
import Derived.Test.YtakfniknkejgpaaDoorMt3
import Derived.Test.YtakfniknkejgpaaDoorMt7
import Derived.Deep.RegionLaw
/- A table is taken off the wire: what was seen, locks (impl.takeSeen, takeLock). -/
namespace Go.Proofs.YtakfniknkejgpaaDoor.Ur
open Go.RowKit Go.Proofs.YtakfniknkejgpaaDoor.Sl Go.Proofs.YtakfniknkejgpaaDoor.By Go.Proofs.YtakfniknkejgpaaDoor.Ap Go.Proofs.YtakfniknkejgpaaDoor.Rr Go.Proofs.YtakfniknkejgpaaDoor.Tb Go.Proofs.YtakfniknkejgpaaDoor.Tw
open Go.Proofs.YtakfniknkejgpaaDoor.Wa (OwnW appW infoW)

def nv (n : Nat) (xs : List Int) : Int := beN (tkB n xs)
theorem pow_pos' : ∀ n : Nat, (0 : Int) < 256 ^ n
 | 0 => by decide
 | n + 1 => by rw [Int.pow_succ]; have := pow_pos' n; omega
theorem nv_range {n : Nat} {xs : List Int} (h : ∀ x ∈ xs, 0 ≤ x ∧ x ≤ 255) : 0 ≤ nv n xs ∧ nv n xs < 256 ^ n := by
 obtain ⟨h1, h2⟩ := beN_range (tkB n xs) (tkB_range h)
 refine ⟨h1, ?_⟩
 unfold nv
 by_cases hl : xs.length < n
 ·have e : tkB n xs = [] := if_pos hl
  rw [e]
  exact pow_pos' n
 ·have e : (tkB n xs).length = n := by unfold tkB; rw [if_neg hl, List.length_take]; omega
  rw [e] at h2
  exact h2
def itR (f : List Int → List Int) : Nat → List Int → List Int
 | 0, xs => xs
 | k + 1, xs => f (itR f k xs)
def itS (f : List Int → List Int) (g : List Int → Bool → Bool) : Nat → List Int → Bool → Bool
 | 0, _, sh => sh
 | k + 1, xs, sh => g (itR f k xs) (itS f g k xs sh)
def itL {α : Type} (f : List Int → List Int) (o : List Int → α) : Nat → List Int → List α
 | 0, _ => []
 | k + 1, xs => itL f o k xs ++ [o (itR f k xs)]
theorem itL_len {α : Type} (f : List Int → List Int) (o : List Int → α) (xs : List Int) : ∀ k, (itL f o k xs).length = k
 | 0 => rfl
 | k + 1 => by unfold itL; rw [List.length_append, itL_len f o xs k]; rfl
def Less (f : List Int → List Int) : Prop := ∀ xs : List Int, (f xs).length ≤ xs.length ∧ ((∀ x ∈ xs, 0 ≤ x ∧ x ≤ 255) → ∀ x ∈ f xs, 0 ≤ x ∧ x ≤ 255)
theorem less_tk (n : Nat) : Less (tkR n) := fun xs => ⟨tkR_len n xs, fun h => tkR_range h⟩
theorem less_txt (n : Nat) : Less (txtR n) := fun xs => ⟨txtR_len n xs, fun h => txtR_range h⟩
theorem Less.comp {f g : List Int → List Int} (hf : Less f) (hg : Less g) : Less (fun xs => f (g xs)) := fun xs => ⟨Nat.le_trans (hf (g xs)).1 (hg xs).1, fun h => (hf (g xs)).2 ((hg xs).2 h)⟩
theorem less_it {f : List Int → List Int} (hf : Less f) : ∀ k, Less (itR f k)
 | 0 => fun _ => ⟨Nat.le_refl _, fun h => h⟩
 | k + 1 => hf.comp (less_it hf k)

def wtO (xs : List Int) : Wt := ⟨nv 1 xs, nv 2 (tkR 1 xs)⟩
def wtR (xs : List Int) : List Int := tkR 2 (tkR 1 xs)
def wtS (xs : List Int) (sh : Bool) : Bool := tkS 2 (tkR 1 xs) (tkS 1 xs sh)
theorem less_wt : Less wtR := (less_tk 2).comp (less_tk 1)
def lk3 (xs : List Int) : List Int := tkR 4 (tkR 2 (tkR 3 (txtR 1 xs)))
def cnt (xs : List Int) : Nat := (nv 1 xs).toNat
def lkO (xs : List Int) : Lk := ⟨txtB 1 xs, nv 3 (txtR 1 xs), nv 2 (tkR 3 (txtR 1 xs)) - 1, nv 4 (tkR 2 (tkR 3 (txtR 1 xs))), itL wtR wtO (cnt (lk3 xs)) (tkR 1 (lk3 xs))⟩
def lkR (xs : List Int) : List Int := itR wtR (cnt (lk3 xs)) (tkR 1 (lk3 xs))
def lkS3 (xs : List Int) (sh : Bool) : Bool := tkS 4 (tkR 2 (tkR 3 (txtR 1 xs))) (tkS 2 (tkR 3 (txtR 1 xs)) (tkS 3 (txtR 1 xs) (txtS 1 xs sh)))
def lkS (xs : List Int) (sh : Bool) : Bool := itS wtR wtS (cnt (lk3 xs)) (tkR 1 (lk3 xs)) (tkS 1 (lk3 xs) (lkS3 xs sh))
theorem less_lk3 : Less lk3 := (less_tk 4).comp ((less_tk 2).comp ((less_tk 3).comp (less_txt 1)))
theorem less_lk : Less lkR := fun xs => ((less_it less_wt (cnt (lk3 xs))).comp ((less_tk 1).comp less_lk3)) xs
def sn5 (xs : List Int) : List Int := tkR 2 (tkR 3 (tkR 1 (tkR 2 (tkR 1 xs))))
def snO (xs : List Int) : Sn := ⟨nv 1 xs, nv 2 (tkR 1 xs), nv 1 (tkR 2 (tkR 1 xs)), nv 3 (tkR 1 (tkR 2 (tkR 1 xs))), nv 2 (tkR 3 (tkR 1 (tkR 2 (tkR 1 xs)))) - 1, nv 4 (sn5 xs)⟩
def snR (xs : List Int) : List Int := tkR 4 (sn5 xs)
def snS (xs : List Int) (sh : Bool) : Bool := tkS 4 (sn5 xs) (tkS 2 (tkR 3 (tkR 1 (tkR 2 (tkR 1 xs)))) (tkS 3 (tkR 1 (tkR 2 (tkR 1 xs))) (tkS 1 (tkR 2 (tkR 1 xs)) (tkS 2 (tkR 1 xs) (tkS 1 xs sh)))))
theorem less_sn : Less snR := (less_tk 4).comp ((less_tk 2).comp ((less_tk 3).comp ((less_tk 1).comp ((less_tk 2).comp (less_tk 1)))))

structure Lc (w W : World) (p B : Nat) (t : TypeId) (z cs : Array Value) (xs : List Int) (sh : Bool) : Prop where
 a : W.heap[w.heap.size]? = some (.cells z t (0, 0))
 b : W.heap[w.heap.size + 1]? = some (.cells cs t (0, 0))
 rd : Rdr B W p xs sh
 gr : w.grownBy W (some p)
 pl : p < w.heap.size ∧ B ≤ p
theorem size_new (w : World) (o : Obj) : (w.alloc o).heap.size = w.heap.size + 1 := by simp
theorem Lc.start {w : World} {p B : Nat} {xs : List Int} {sh : Bool} (h : Rdr B w p xs sh) (hB : B ≤ p) (t : TypeId) (z : Array Value) : Lc w ((w.alloc (.cells z t)).alloc (.cells z t)) p B t z z xs sh := by
 refine ⟨(Below.heap_alloc _ _ _ (by simp)).trans (blk_new _ _ _), ?_, rdr_alloc (rdr_alloc h hB _) hB _, grown_alloc (grown_alloc (grown_refl _ _) _) _, h.lt, hB⟩
 have := blk_new (w.alloc (.cells z t)) z t
 rw [size_new] at this
 exact this
theorem Lc.num {w W W' : World} {p B : Nat} {t : TypeId} {z cs : Array Value} {xs ys : List Int} {sh sb : Bool} (h : Lc w W p B t z cs xs sh) (r : Rdr B W' p ys sb) (g : W.grownBy W' (some p)) : Lc w W' p B t z cs ys sb :=
 ⟨blk_kept h.a g (by have := h.pl; omega), blk_kept h.b g (by have := h.pl; omega), r, grown_trans h.gr g, h.pl⟩
theorem Lc.set {w W : World} {p B : Nat} {t : TypeId} {z cs : Array Value} {xs : List Int} {sh : Bool} (h : Lc w W p B t z cs xs sh) (i : Nat) (v : Value) : Lc w (W.setCell ⟨w.heap.size + 1, i, none⟩ v) p B t z (cs.setIfInBounds i v) xs sh :=
 ⟨(blk_far (by omega) i v).trans h.a, blk_set h.b i v, rdr_set h.rd (by have := h.pl; omega) (by have := h.pl; omega) i v, grown_new h.gr (by omega) i v, h.pl⟩
theorem Lc.far {w W : World} {p B : Nat} {t : TypeId} {z cs : Array Value} {xs : List Int} {sh : Bool} (h : Lc w W p B t z cs xs sh) (q : Nat) (hq : w.heap.size + 2 ≤ q) (i : Nat) (v : Value) : Lc w (W.setCell ⟨q, i, none⟩ v) p B t z cs xs sh :=
 ⟨(blk_far (by omega) i v).trans h.a, (blk_far (by omega) i v).trans h.b, rdr_set h.rd (by have := h.pl; omega) (by have := h.pl; omega) i v, grown_new h.gr (by omega) i v, h.pl⟩
theorem Lc.alloc {w W : World} {p B : Nat} {t : TypeId} {z cs : Array Value} {xs : List Int} {sh : Bool} (h : Lc w W p B t z cs xs sh) (o : Obj) : Lc w (W.alloc o) p B t z cs xs sh :=
 ⟨(Below.heap_alloc _ _ _ (Array.getElem?_eq_some_iff.1 h.a).1).trans h.a, (Below.heap_alloc _ _ _ (Array.getElem?_eq_some_iff.1 h.b).1).trans h.b, rdr_alloc h.rd h.pl.2 o, grown_alloc h.gr o, h.pl⟩
theorem Lc.far0 {w W : World} {p B : Nat} {t : TypeId} {z cs : Array Value} {xs : List Int} {sh : Bool} (h : Lc w W p B t z cs xs sh) (i : Nat) (v : Value) : Lc w (W.setCell ⟨w.heap.size, i, none⟩ v) p B t (z.setIfInBounds i v) cs xs sh :=
 ⟨blk_set h.a i v, (blk_far (by omega) i v).trans h.b, rdr_set h.rd (by have := h.pl; omega) (by have := h.pl; omega) i v, grown_new h.gr (Nat.le_refl _) i v, h.pl⟩
theorem Lc.size {w W : World} {p B : Nat} {t : TypeId} {z cs : Array Value} {xs : List Int} {sh : Bool} (h : Lc w W p B t z cs xs sh) : w.heap.size + 2 ≤ W.heap.size := by
 have := (Array.getElem?_eq_some_iff.1 h.b).1
 omega

set_option maxRecDepth 100000 in
set_option maxHeartbeats 3200000 in
theorem takeSeen_any (p B : Nat) (xs : List Int) (sh : Bool) (w : World) (h : Rdr B w p xs sh) (hB : B ≤ p) (hx : xs.length ≤ 70000) (hr : ∀ x ∈ xs, 0 ≤ x ∧ x ≤ 255) :
 Calls Tryd.prog 62 #[.pointer (some ⟨p, 0, none⟩)] w fun e w' => e = .returned (snV (snO xs)) ∧ Rdr B w' p (snR xs) (snS xs sh) ∧ w.grownBy w' (some p) := by
 have L0 : Hid (Lc w ((w.alloc (.cells #[.int .i64 0, .int .i64 0, .int .i64 0, .int .i64 0, .int .i64 0, .int .i64 0] 57)).alloc (.cells #[.int .i64 0, .int .i64 0, .int .i64 0, .int .i64 0, .int .i64 0, .int .i64 0] 57)) p B 57 #[.int .i64 0, .int .i64 0, .int .i64 0, .int .i64 0, .int .i64 0, .int .i64 0] #[.int .i64 0, .int .i64 0, .int .i64 0, .int .i64 0, .int .i64 0, .int .i64 0] xs sh) := Lc.start h hB _ _
 have HR0 : Hid (∀ x ∈ xs, 0 ≤ x ∧ x ≤ 255) := hr
 have HX0 : Hid (xs.length ≤ 70000) := hx
 clear h hr hx
 go_enter Tryd.func62, Tryd.ntmps62
 go_wp2_with fail
 generalize (w.alloc (.cells #[.int .i64 0, .int .i64 0, .int .i64 0, .int .i64 0, .int .i64 0, .int .i64 0] 57)).alloc (.cells #[.int .i64 0, .int .i64 0, .int .i64 0, .int .i64 0, .int .i64 0, .int .i64 0] 57) = w0 at L0 ⊢
 have N0 := number_any 1 p B xs sh _ L0.out.rd hB (by decide) HX0.out HR0.out
 have nb0 := nv_range (n := 1) HR0.out
 have HR1 : Hid (∀ x ∈ (tkR 1 xs), 0 ≤ x ∧ x ≤ 255) := tkR_range HR0.out
 have HX1 : Hid (((tkR 1 xs)).length ≤ 70000) := Nat.le_trans (tkR_len _ _) HX0.out
 unfold nv at nb0
 obtain ⟨z0, HZ0⟩ : ∃ z, Hid (beN (tkB 1 xs) = z) := ⟨_, rfl⟩
 rw [HZ0.out] at N0 nb0
 simp only [show ((256 : Int) ^ 1) = 256 from rfl] at nb0
 refine N0.mono ?_
 rintro e w1 ⟨rfl, r, g⟩
 have l := L0.out.num r g
 obtain ⟨c, f⟩ := blk_cell l.b 0 (x := .int .i64 0) rfl
 have L1 : Hid (Lc w (w1.setCell ⟨w.heap.size + 1, 0, none⟩ (.int .i64 z0)) p B 57 #[.int .i64 0, .int .i64 0, .int .i64 0, .int .i64 0, .int .i64 0, .int .i64 0] #[.int .i64 z0, .int .i64 0, .int .i64 0, .int .i64 0, .int .i64 0, .int .i64 0] (tkR 1 xs) (tkS 1 xs sh)) := l.set 0 _
 clear l r g L0 N0 HR0 HX0
 go_wp2_with fail
 clear c f nb0
 generalize w1.setCell ⟨w.heap.size + 1, 0, none⟩ (.int .i64 z0) = w1' at L1 ⊢
 have N1 := number_any 2 p B (tkR 1 xs) (tkS 1 xs sh) _ L1.out.rd hB (by decide) HX1.out HR1.out
 have nb1 := nv_range (n := 2) HR1.out
 have HR2 : Hid (∀ x ∈ (tkR 2 (tkR 1 xs)), 0 ≤ x ∧ x ≤ 255) := tkR_range HR1.out
 have HX2 : Hid (((tkR 2 (tkR 1 xs))).length ≤ 70000) := Nat.le_trans (tkR_len _ _) HX1.out
 unfold nv at nb1
 obtain ⟨z1, HZ1⟩ : ∃ z, Hid (beN (tkB 2 (tkR 1 xs)) = z) := ⟨_, rfl⟩
 rw [HZ1.out] at N1 nb1
 simp only [show ((256 : Int) ^ 2) = 65536 from rfl] at nb1
 refine N1.mono ?_
 rintro e w2 ⟨rfl, r, g⟩
 have l := L1.out.num r g
 obtain ⟨c, f⟩ := blk_cell l.b 1 (x := .int .i64 0) rfl
 have L2 : Hid (Lc w (w2.setCell ⟨w.heap.size + 1, 1, none⟩ (.int .i64 z1)) p B 57 #[.int .i64 0, .int .i64 0, .int .i64 0, .int .i64 0, .int .i64 0, .int .i64 0] #[.int .i64 z0, .int .i64 z1, .int .i64 0, .int .i64 0, .int .i64 0, .int .i64 0] (tkR 2 (tkR 1 xs)) (tkS 2 (tkR 1 xs) (tkS 1 xs sh))) := l.set 1 _
 clear l r g L1 N1 HR1 HX1
 go_wp2_with fail
 clear c f nb1
 generalize w2.setCell ⟨w.heap.size + 1, 1, none⟩ (.int .i64 z1) = w2' at L2 ⊢
 have N2 := number_any 1 p B (tkR 2 (tkR 1 xs)) (tkS 2 (tkR 1 xs) (tkS 1 xs sh)) _ L2.out.rd hB (by decide) HX2.out HR2.out
 have nb2 := nv_range (n := 1) HR2.out
 have HR3 : Hid (∀ x ∈ (tkR 1 (tkR 2 (tkR 1 xs))), 0 ≤ x ∧ x ≤ 255) := tkR_range HR2.out
 have HX3 : Hid (((tkR 1 (tkR 2 (tkR 1 xs)))).length ≤ 70000) := Nat.le_trans (tkR_len _ _) HX2.out
 unfold nv at nb2
 obtain ⟨z2, HZ2⟩ : ∃ z, Hid (beN (tkB 1 (tkR 2 (tkR 1 xs))) = z) := ⟨_, rfl⟩
 rw [HZ2.out] at N2 nb2
 simp only [show ((256 : Int) ^ 1) = 256 from rfl] at nb2
 refine N2.mono ?_
 rintro e w3 ⟨rfl, r, g⟩
 have l := L2.out.num r g
 obtain ⟨c, f⟩ := blk_cell l.b 2 (x := .int .i64 0) rfl
 have L3 : Hid (Lc w (w3.setCell ⟨w.heap.size + 1, 2, none⟩ (.int .i64 z2)) p B 57 #[.int .i64 0, .int .i64 0, .int .i64 0, .int .i64 0, .int .i64 0, .int .i64 0] #[.int .i64 z0, .int .i64 z1, .int .i64 z2, .int .i64 0, .int .i64 0, .int .i64 0] (tkR 1 (tkR 2 (tkR 1 xs))) (tkS 1 (tkR 2 (tkR 1 xs)) (tkS 2 (tkR 1 xs) (tkS 1 xs sh)))) := l.set 2 _
 clear l r g L2 N2 HR2 HX2
 go_wp2_with fail
 clear c f nb2
 generalize w3.setCell ⟨w.heap.size + 1, 2, none⟩ (.int .i64 z2) = w3' at L3 ⊢
 have N3 := number_any 3 p B (tkR 1 (tkR 2 (tkR 1 xs))) (tkS 1 (tkR 2 (tkR 1 xs)) (tkS 2 (tkR 1 xs) (tkS 1 xs sh))) _ L3.out.rd hB (by decide) HX3.out HR3.out
 have nb3 := nv_range (n := 3) HR3.out
 have HR4 : Hid (∀ x ∈ (tkR 3 (tkR 1 (tkR 2 (tkR 1 xs)))), 0 ≤ x ∧ x ≤ 255) := tkR_range HR3.out
 have HX4 : Hid (((tkR 3 (tkR 1 (tkR 2 (tkR 1 xs))))).length ≤ 70000) := Nat.le_trans (tkR_len _ _) HX3.out
 unfold nv at nb3
 obtain ⟨z3, HZ3⟩ : ∃ z, Hid (beN (tkB 3 (tkR 1 (tkR 2 (tkR 1 xs)))) = z) := ⟨_, rfl⟩
 rw [HZ3.out] at N3 nb3
 simp only [show ((256 : Int) ^ 3) = 16777216 from rfl] at nb3
 refine N3.mono ?_
 rintro e w4 ⟨rfl, r, g⟩
 have l := L3.out.num r g
 obtain ⟨c, f⟩ := blk_cell l.b 3 (x := .int .i64 0) rfl
 have L4 : Hid (Lc w (w4.setCell ⟨w.heap.size + 1, 3, none⟩ (.int .i64 z3)) p B 57 #[.int .i64 0, .int .i64 0, .int .i64 0, .int .i64 0, .int .i64 0, .int .i64 0] #[.int .i64 z0, .int .i64 z1, .int .i64 z2, .int .i64 z3, .int .i64 0, .int .i64 0] (tkR 3 (tkR 1 (tkR 2 (tkR 1 xs)))) (tkS 3 (tkR 1 (tkR 2 (tkR 1 xs))) (tkS 1 (tkR 2 (tkR 1 xs)) (tkS 2 (tkR 1 xs) (tkS 1 xs sh))))) := l.set 3 _
 clear l r g L3 N3 HR3 HX3
 go_wp2_with fail
 clear c f nb3
 generalize w4.setCell ⟨w.heap.size + 1, 3, none⟩ (.int .i64 z3) = w4' at L4 ⊢
 have N4 := number_any 2 p B (tkR 3 (tkR 1 (tkR 2 (tkR 1 xs)))) (tkS 3 (tkR 1 (tkR 2 (tkR 1 xs))) (tkS 1 (tkR 2 (tkR 1 xs)) (tkS 2 (tkR 1 xs) (tkS 1 xs sh)))) _ L4.out.rd hB (by decide) HX4.out HR4.out
 have nb4 := nv_range (n := 2) HR4.out
 have HR5 : Hid (∀ x ∈ (tkR 2 (tkR 3 (tkR 1 (tkR 2 (tkR 1 xs))))), 0 ≤ x ∧ x ≤ 255) := tkR_range HR4.out
 have HX5 : Hid (((tkR 2 (tkR 3 (tkR 1 (tkR 2 (tkR 1 xs)))))).length ≤ 70000) := Nat.le_trans (tkR_len _ _) HX4.out
 unfold nv at nb4
 obtain ⟨z4, HZ4⟩ : ∃ z, Hid (beN (tkB 2 (tkR 3 (tkR 1 (tkR 2 (tkR 1 xs))))) = z) := ⟨_, rfl⟩
 rw [HZ4.out] at N4 nb4
 simp only [show ((256 : Int) ^ 2) = 65536 from rfl] at nb4
 refine N4.mono ?_
 rintro e w5 ⟨rfl, r, g⟩
 have l := L4.out.num r g
 obtain ⟨c, f⟩ := blk_cell l.b 4 (x := .int .i64 0) rfl
 have L5 : Hid (Lc w (w5.setCell ⟨w.heap.size + 1, 4, none⟩ (.int .i64 (z4 - 1))) p B 57 #[.int .i64 0, .int .i64 0, .int .i64 0, .int .i64 0, .int .i64 0, .int .i64 0] #[.int .i64 z0, .int .i64 z1, .int .i64 z2, .int .i64 z3, .int .i64 (z4 - 1), .int .i64 0] (tkR 2 (tkR 3 (tkR 1 (tkR 2 (tkR 1 xs))))) (tkS 2 (tkR 3 (tkR 1 (tkR 2 (tkR 1 xs)))) (tkS 3 (tkR 1 (tkR 2 (tkR 1 xs))) (tkS 1 (tkR 2 (tkR 1 xs)) (tkS 2 (tkR 1 xs) (tkS 1 xs sh)))))) := l.set 4 _
 clear l r g L4 N4 HR4 HX4
 go_wp2_with fail
 clear c f nb4
 generalize w5.setCell ⟨w.heap.size + 1, 4, none⟩ (.int .i64 (z4 - 1)) = w5' at L5 ⊢
 have N5 := number_any 4 p B (tkR 2 (tkR 3 (tkR 1 (tkR 2 (tkR 1 xs))))) (tkS 2 (tkR 3 (tkR 1 (tkR 2 (tkR 1 xs)))) (tkS 3 (tkR 1 (tkR 2 (tkR 1 xs))) (tkS 1 (tkR 2 (tkR 1 xs)) (tkS 2 (tkR 1 xs) (tkS 1 xs sh))))) _ L5.out.rd hB (by decide) HX5.out HR5.out
 have nb5 := nv_range (n := 4) HR5.out
 have HR6 : Hid (∀ x ∈ (tkR 4 (tkR 2 (tkR 3 (tkR 1 (tkR 2 (tkR 1 xs)))))), 0 ≤ x ∧ x ≤ 255) := tkR_range HR5.out
 have HX6 : Hid (((tkR 4 (tkR 2 (tkR 3 (tkR 1 (tkR 2 (tkR 1 xs))))))).length ≤ 70000) := Nat.le_trans (tkR_len _ _) HX5.out
 unfold nv at nb5
 obtain ⟨z5, HZ5⟩ : ∃ z, Hid (beN (tkB 4 (tkR 2 (tkR 3 (tkR 1 (tkR 2 (tkR 1 xs)))))) = z) := ⟨_, rfl⟩
 rw [HZ5.out] at N5 nb5
 simp only [show ((256 : Int) ^ 4) = 4294967296 from rfl] at nb5
 refine N5.mono ?_
 rintro e w6 ⟨rfl, r, g⟩
 have l := L5.out.num r g
 obtain ⟨c, f⟩ := blk_cell l.b 5 (x := .int .i64 0) rfl
 have L6 : Hid (Lc w (w6.setCell ⟨w.heap.size + 1, 5, none⟩ (.int .i64 z5)) p B 57 #[.int .i64 0, .int .i64 0, .int .i64 0, .int .i64 0, .int .i64 0, .int .i64 0] #[.int .i64 z0, .int .i64 z1, .int .i64 z2, .int .i64 z3, .int .i64 (z4 - 1), .int .i64 z5] (tkR 4 (tkR 2 (tkR 3 (tkR 1 (tkR 2 (tkR 1 xs)))))) (tkS 4 (tkR 2 (tkR 3 (tkR 1 (tkR 2 (tkR 1 xs))))) (tkS 2 (tkR 3 (tkR 1 (tkR 2 (tkR 1 xs)))) (tkS 3 (tkR 1 (tkR 2 (tkR 1 xs))) (tkS 1 (tkR 2 (tkR 1 xs)) (tkS 2 (tkR 1 xs) (tkS 1 xs sh))))))) := l.set 5 _
 clear l r g L5 N5 HR5 HX5
 go_upto_region 8 with fail
 clear c f nb5
 generalize w6.setCell ⟨w.heap.size + 1, 5, none⟩ (.int .i64 z5) = w6' at L6 ⊢
 have HE : Hid (snV (snO xs) = .agg #[.int .i64 z0, .int .i64 z1, .int .i64 z2, .int .i64 z3, .int .i64 (z4 - 1), .int .i64 z5]) := by
  show _ = _
  unfold snV snO nv sn5
  rw [HZ0.out, HZ1.out, HZ2.out, HZ3.out, HZ4.out, HZ5.out]
 obtain ⟨ca0, fa0⟩ := blk_cell L6.out.a 0 (x := .int .i64 0) rfl
 have cb0 := (blk_cell L6.out.b 0 (x := .int .i64 z0) rfl).1
 obtain ⟨ca1, fa1⟩ := blk_cell L6.out.a 1 (x := .int .i64 0) rfl
 have cb1 := (blk_cell L6.out.b 1 (x := .int .i64 z1) rfl).1
 obtain ⟨ca2, fa2⟩ := blk_cell L6.out.a 2 (x := .int .i64 0) rfl
 have cb2 := (blk_cell L6.out.b 2 (x := .int .i64 z2) rfl).1
 obtain ⟨ca3, fa3⟩ := blk_cell L6.out.a 3 (x := .int .i64 0) rfl
 have cb3 := (blk_cell L6.out.b 3 (x := .int .i64 z3) rfl).1
 obtain ⟨ca4, fa4⟩ := blk_cell L6.out.a 4 (x := .int .i64 0) rfl
 have cb4 := (blk_cell L6.out.b 4 (x := .int .i64 (z4 - 1)) rfl).1
 obtain ⟨ca5, fa5⟩ := blk_cell L6.out.a 5 (x := .int .i64 0) rfl
 have cb5 := (blk_cell L6.out.b 5 (x := .int .i64 z5) rfl).1
 have LF : Hid (Lc w ((((((w6'.setCell ⟨w.heap.size, 0, none⟩ (.int .i64 z0)).setCell ⟨w.heap.size, 1, none⟩ (.int .i64 z1)).setCell ⟨w.heap.size, 2, none⟩ (.int .i64 z2)).setCell ⟨w.heap.size, 3, none⟩ (.int .i64 z3)).setCell ⟨w.heap.size, 4, none⟩ (.int .i64 (z4 - 1))).setCell ⟨w.heap.size, 5, none⟩ (.int .i64 z5)) p B 57 #[.int .i64 z0, .int .i64 z1, .int .i64 z2, .int .i64 z3, .int .i64 (z4 - 1), .int .i64 z5] #[.int .i64 z0, .int .i64 z1, .int .i64 z2, .int .i64 z3, .int .i64 (z4 - 1), .int .i64 z5] (tkR 4 (tkR 2 (tkR 3 (tkR 1 (tkR 2 (tkR 1 xs)))))) (tkS 4 (tkR 2 (tkR 3 (tkR 1 (tkR 2 (tkR 1 xs))))) (tkS 2 (tkR 3 (tkR 1 (tkR 2 (tkR 1 xs)))) (tkS 3 (tkR 1 (tkR 2 (tkR 1 xs))) (tkS 1 (tkR 2 (tkR 1 xs)) (tkS 2 (tkR 1 xs) (tkS 1 xs sh))))))) := L6.out.far0 0 _ |>.far0 1 _ |>.far0 2 _ |>.far0 3 _ |>.far0 4 _ |>.far0 5 _
 clear L6 HR6 HX6
 go_wp2_with fail
 generalize ((((((w6'.setCell ⟨w.heap.size, 0, none⟩ (.int .i64 z0)).setCell ⟨w.heap.size, 1, none⟩ (.int .i64 z1)).setCell ⟨w.heap.size, 2, none⟩ (.int .i64 z2)).setCell ⟨w.heap.size, 3, none⟩ (.int .i64 z3)).setCell ⟨w.heap.size, 4, none⟩ (.int .i64 (z4 - 1))).setCell ⟨w.heap.size, 5, none⟩ (.int .i64 z5)) = wf at LF ⊢
 have d0 := (blk_cell LF.out.a 0 (x := .int .i64 z0) rfl).1
 have d1 := (blk_cell LF.out.a 1 (x := .int .i64 z1) rfl).1
 have d2 := (blk_cell LF.out.a 2 (x := .int .i64 z2) rfl).1
 have d3 := (blk_cell LF.out.a 3 (x := .int .i64 z3) rfl).1
 have d4 := (blk_cell LF.out.a 4 (x := .int .i64 (z4 - 1)) rfl).1
 have d5 := (blk_cell LF.out.a 5 (x := .int .i64 z5) rfl).1
 exact bodyPost_ret (v := .agg #[.int .i64 z0, .int .i64 z1, .int .i64 z2, .int .i64 z3, .int .i64 (z4 - 1), .int .i64 z5]) (by simp [results, Tryd.results62, go_sem, d0, d1, d2, d3, d4, d5]) rfl ⟨by rw [HE.out], LF.out.rd, LF.out.gr⟩
end Go.Proofs.YtakfniknkejgpaaDoor.Ur

/- A lock is taken off the wire (impl.takeLock). -/
namespace Go.Proofs.YtakfniknkejgpaaDoor.Ur
open Go.RowKit Go.Proofs.YtakfniknkejgpaaDoor.Sl Go.Proofs.YtakfniknkejgpaaDoor.By Go.Proofs.YtakfniknkejgpaaDoor.Ap Go.Proofs.YtakfniknkejgpaaDoor.Rr Go.Proofs.YtakfniknkejgpaaDoor.Tb Go.Proofs.YtakfniknkejgpaaDoor.Tw
open Go.Proofs.YtakfniknkejgpaaDoor.Wa (OwnW appW infoW)

structure Lw (w wr W : World) (p B : Nat) (z cs : Array Value) (u : Value) (ws : List Wt) (xc : Array Value) (xs : List Int) (sh : Bool) : Prop where
 lc : Lc w W p B 52 z cs xs sh
 ow : OwnW W (w.heap.size + 2) u ws
 og : ∀ g, u.ownBlock = some g → g < wr.heap.size
 xb : W.heap[wr.heap.size]? = some (.cells xc 93 (0, 0))
 sz : w.heap.size + 2 ≤ wr.heap.size
theorem Lw.start {w wr : World} {p B : Nat} {z cs : Array Value} {u : Value} {ws : List Wt} {xs : List Int} {sh : Bool} (h : Lc w wr p B 52 z cs xs sh) (o : OwnW wr (w.heap.size + 2) u ws) (xc : Array Value) : Lw w wr (wr.alloc (.cells xc 93)) p B z cs u ws xc xs sh :=
 ⟨h.alloc _, o.alloc _, fun g hg => (o.lt g hg).2, heap_alloc_new _ _, h.size⟩
theorem Lw.num {w wr W W' : World} {p B : Nat} {z cs : Array Value} {u : Value} {ws : List Wt} {xc : Array Value} {xs ys : List Int} {sh sb : Bool} (h : Lw w wr W p B z cs u ws xc xs sh) (r : Rdr B W' p ys sb) (g : W.grownBy W' (some p)) : Lw w wr W' p B z cs u ws xc ys sb :=
 ⟨h.lc.num r g, h.ow.kept fun q hq => g.block q (h.ow.lt q hq).2 (by have := h.lc.pl; have := (h.ow.lt q hq).1; simp; omega), h.og, blk_kept h.xb g (by have := h.lc.pl; have := h.sz; omega), h.sz⟩
theorem Lw.setx {w wr W : World} {p B : Nat} {z cs : Array Value} {u : Value} {ws : List Wt} {xc : Array Value} {xs : List Int} {sh : Bool} (h : Lw w wr W p B z cs u ws xc xs sh) (i : Nat) (v : Value) : Lw w wr (W.setCell ⟨wr.heap.size, i, none⟩ v) p B z cs u ws (xc.setIfInBounds i v) xs sh :=
 ⟨h.lc.far _ h.sz i v, h.ow.kept fun q hq => blk_far (by have := h.og q hq; omega) i v, h.og, blk_set h.xb i v, h.sz⟩
theorem Lc.kept {w W W' : World} {p B : Nat} {t : TypeId} {z cs : Array Value} {xs : List Int} {sh : Bool} {v : Value} (h : Lc w W p B t z cs xs sh) (hs : W.heap.size ≤ W'.heap.size) (hv : ∀ g, v.ownBlock = some g → w.heap.size + 2 ≤ g) (hb : Below (w.heap.size + 2) W W') (hk : ∀ k, k < W.heap.size → some k ≠ v.ownBlock → W'.heap[k]? = W.heap[k]?) : Lc w W' p B t z cs xs sh := by
 have hlt := h.size
 have far : ∀ k, k < w.heap.size + 2 → W'.heap[k]? = W.heap[k]? := fun k hk' => hk k (by omega) fun e => by have := hv k e.symm; omega
 refine ⟨(far _ (by omega)).trans h.a, (far _ (by omega)).trans h.b, h.rd.kept (far p (by have := h.pl; omega)) (fun k hk' => far k (by have := h.pl; omega)), ?_, h.pl⟩
 exact ⟨hb.os.trans h.gr.os, hb.tape.trans h.gr.tape, hb.output.trans h.gr.output, Nat.le_trans h.gr.size hs, fun k hk' hn => (far k (by omega)).trans (h.gr.block k hk' hn)⟩
theorem row_one (W : World) (x : Wt) : RowW (W.alloc (.cells #[.int .i64 x.c, .int .i64 x.l] 93)) (.slice (some ⟨W.heap.size, 0, none⟩) 1 1) [x] := by
 refine ⟨_, _, rfl, .inr ⟨W.heap.size, 0, rfl, Nat.le_refl _, by simp, fun i y hi => ?_⟩⟩
 have h0 : i = 0 := by have := (List.getElem?_eq_some_iff.1 hi).1; simp at this; exact this
 subst h0
 simp at hi
 subst hi
 exact ⟨(Joins.cell_of_block (heap_alloc_new W _) _).trans rfl, (Joins.cell_of_block (heap_alloc_new W _) _).trans rfl⟩
set_option maxRecDepth 100000 in
set_option maxHeartbeats 6400000 in
theorem takeLock_any (p B : Nat) (xs : List Int) (sh : Bool) (w : World) (h : Rdr B w p xs sh) (hB : B ≤ p) (hx : xs.length ≤ 70000) (hr : ∀ x ∈ xs, 0 ≤ x ∧ x ≤ 255) :
 Calls Tryd.prog 61 #[.pointer (some ⟨p, 0, none⟩)] w fun e w' => ∃ u, e = .returned (lkV (lkO xs) u) ∧ OwnW w' w.heap.size u (lkO xs).ws ∧ Rdr B w' p (lkR xs) (lkS xs sh) ∧ w.grownBy w' (some p) := by
 obtain ⟨i0, hi0, hz0, hz1, hz2⟩ := info_parts infoW
 have L0 : Hid (Lc w ((w.alloc (.cells #[.string ⟨#[]⟩, .int .i64 0, .int .i64 0, .int .i64 0, .slice none 0 0] 52)).alloc (.cells #[.string ⟨#[]⟩, .int .i64 0, .int .i64 0, .int .i64 0, .slice none 0 0] 52)) p B 52 #[.string ⟨#[]⟩, .int .i64 0, .int .i64 0, .int .i64 0, .slice none 0 0] #[.string ⟨#[]⟩, .int .i64 0, .int .i64 0, .int .i64 0, .slice none 0 0] xs sh) := Lc.start h hB _ _
 have HR0 : Hid (∀ x ∈ xs, 0 ≤ x ∧ x ≤ 255) := hr
 have HX0 : Hid (xs.length ≤ 70000) := hx
 clear h hr hx
 go_enter Tryd.func61, Tryd.ntmps61
 go_wp2_with fail
 generalize (w.alloc (.cells #[.string ⟨#[]⟩, .int .i64 0, .int .i64 0, .int .i64 0, .slice none 0 0] 52)).alloc (.cells #[.string ⟨#[]⟩, .int .i64 0, .int .i64 0, .int .i64 0, .slice none 0 0] 52) = w0 at L0 ⊢
 have N0 := text_any 1 p B xs sh _ L0.out.rd hB (by decide) HX0.out HR0.out
 have HR1 : Hid (∀ x ∈ (txtR 1 xs), 0 ≤ x ∧ x ≤ 255) := txtR_range HR0.out
 have HX1 : Hid ((txtR 1 xs).length ≤ 70000) := Nat.le_trans (txtR_len _ _) HX0.out
 obtain ⟨z0, HZ0⟩ : ∃ z, Hid (txtB 1 xs = z) := ⟨_, rfl⟩
 rw [HZ0.out] at N0
 refine N0.mono ?_
 rintro e w1 ⟨rfl, r, g⟩
 have l := L0.out.num r g
 obtain ⟨c, f⟩ := blk_cell l.b 0 (x := .string ⟨#[]⟩) rfl
 have L1 : Hid (Lc w (w1.setCell ⟨w.heap.size + 1, 0, none⟩ (.string z0)) p B 52 #[.string ⟨#[]⟩, .int .i64 0, .int .i64 0, .int .i64 0, .slice none 0 0] #[.string z0, .int .i64 0, .int .i64 0, .int .i64 0, .slice none 0 0] (txtR 1 xs) (txtS 1 xs sh)) := l.set 0 _
 clear l r g L0 N0 HR0 HX0
 go_wp2_with fail
 clear c f
 generalize w1.setCell ⟨w.heap.size + 1, 0, none⟩ (.string z0) = w1' at L1 ⊢
 have N1 := number_any 3 p B (txtR 1 xs) (txtS 1 xs sh) _ L1.out.rd hB (by decide) HX1.out HR1.out
 have nb1 := nv_range (n := 3) HR1.out
 have HR2 : Hid (∀ x ∈ (tkR 3 (txtR 1 xs)), 0 ≤ x ∧ x ≤ 255) := tkR_range HR1.out
 have HX2 : Hid (((tkR 3 (txtR 1 xs))).length ≤ 70000) := Nat.le_trans (tkR_len _ _) HX1.out
 unfold nv at nb1
 obtain ⟨z1, HZ1⟩ : ∃ z, Hid (beN (tkB 3 (txtR 1 xs)) = z) := ⟨_, rfl⟩
 rw [HZ1.out] at N1 nb1
 simp only [show ((256 : Int) ^ 3) = 16777216 from rfl] at nb1
 refine N1.mono ?_
 rintro e w2 ⟨rfl, r, g⟩
 have l := L1.out.num r g
 obtain ⟨c, f⟩ := blk_cell l.b 1 (x := .int .i64 0) rfl
 have L2 : Hid (Lc w (w2.setCell ⟨w.heap.size + 1, 1, none⟩ (.int .i64 z1)) p B 52 #[.string ⟨#[]⟩, .int .i64 0, .int .i64 0, .int .i64 0, .slice none 0 0] #[.string z0, .int .i64 z1, .int .i64 0, .int .i64 0, .slice none 0 0] (tkR 3 (txtR 1 xs)) (tkS 3 (txtR 1 xs) (txtS 1 xs sh))) := l.set 1 _
 clear l r g L1 N1 HR1 HX1
 go_wp2_with fail
 clear c f nb1
 generalize w2.setCell ⟨w.heap.size + 1, 1, none⟩ (.int .i64 z1) = w2' at L2 ⊢
 have N2 := number_any 2 p B (tkR 3 (txtR 1 xs)) (tkS 3 (txtR 1 xs) (txtS 1 xs sh)) _ L2.out.rd hB (by decide) HX2.out HR2.out
 have nb2 := nv_range (n := 2) HR2.out
 have HR3 : Hid (∀ x ∈ (tkR 2 (tkR 3 (txtR 1 xs))), 0 ≤ x ∧ x ≤ 255) := tkR_range HR2.out
 have HX3 : Hid (((tkR 2 (tkR 3 (txtR 1 xs)))).length ≤ 70000) := Nat.le_trans (tkR_len _ _) HX2.out
 unfold nv at nb2
 obtain ⟨z2, HZ2⟩ : ∃ z, Hid (beN (tkB 2 (tkR 3 (txtR 1 xs))) = z) := ⟨_, rfl⟩
 rw [HZ2.out] at N2 nb2
 simp only [show ((256 : Int) ^ 2) = 65536 from rfl] at nb2
 refine N2.mono ?_
 rintro e w3 ⟨rfl, r, g⟩
 have l := L2.out.num r g
 obtain ⟨c, f⟩ := blk_cell l.b 2 (x := .int .i64 0) rfl
 have L3 : Hid (Lc w (w3.setCell ⟨w.heap.size + 1, 2, none⟩ (.int .i64 (z2 - 1))) p B 52 #[.string ⟨#[]⟩, .int .i64 0, .int .i64 0, .int .i64 0, .slice none 0 0] #[.string z0, .int .i64 z1, .int .i64 (z2 - 1), .int .i64 0, .slice none 0 0] (tkR 2 (tkR 3 (txtR 1 xs))) (tkS 2 (tkR 3 (txtR 1 xs)) (tkS 3 (txtR 1 xs) (txtS 1 xs sh)))) := l.set 2 _
 clear l r g L2 N2 HR2 HX2
 go_wp2_with fail
 clear c f nb2
 generalize w3.setCell ⟨w.heap.size + 1, 2, none⟩ (.int .i64 (z2 - 1)) = w3' at L3 ⊢
 have N3 := number_any 4 p B (tkR 2 (tkR 3 (txtR 1 xs))) (tkS 2 (tkR 3 (txtR 1 xs)) (tkS 3 (txtR 1 xs) (txtS 1 xs sh))) _ L3.out.rd hB (by decide) HX3.out HR3.out
 have nb3 := nv_range (n := 4) HR3.out
 have HR4 : Hid (∀ x ∈ (tkR 4 (tkR 2 (tkR 3 (txtR 1 xs)))), 0 ≤ x ∧ x ≤ 255) := tkR_range HR3.out
 have HX4 : Hid (((tkR 4 (tkR 2 (tkR 3 (txtR 1 xs))))).length ≤ 70000) := Nat.le_trans (tkR_len _ _) HX3.out
 unfold nv at nb3
 obtain ⟨z3, HZ3⟩ : ∃ z, Hid (beN (tkB 4 (tkR 2 (tkR 3 (txtR 1 xs)))) = z) := ⟨_, rfl⟩
 rw [HZ3.out] at N3 nb3
 simp only [show ((256 : Int) ^ 4) = 4294967296 from rfl] at nb3
 refine N3.mono ?_
 rintro e w4 ⟨rfl, r, g⟩
 have l := L3.out.num r g
 obtain ⟨c, f⟩ := blk_cell l.b 3 (x := .int .i64 0) rfl
 have L4 : Hid (Lc w (w4.setCell ⟨w.heap.size + 1, 3, none⟩ (.int .i64 z3)) p B 52 #[.string ⟨#[]⟩, .int .i64 0, .int .i64 0, .int .i64 0, .slice none 0 0] #[.string z0, .int .i64 z1, .int .i64 (z2 - 1), .int .i64 z3, .slice none 0 0] (tkR 4 (tkR 2 (tkR 3 (txtR 1 xs)))) (tkS 4 (tkR 2 (tkR 3 (txtR 1 xs))) (tkS 2 (tkR 3 (txtR 1 xs)) (tkS 3 (txtR 1 xs) (txtS 1 xs sh))))) := l.set 3 _
 clear l r g L3 N3 HR3 HX3
 go_wp2_with fail
 clear c f nb3
 generalize w4.setCell ⟨w.heap.size + 1, 3, none⟩ (.int .i64 z3) = w4' at L4 ⊢
 have HE4 : Hid (lk3 xs = (tkR 4 (tkR 2 (tkR 3 (txtR 1 xs)))) ∧ lkS3 xs sh = (tkS 4 (tkR 2 (tkR 3 (txtR 1 xs))) (tkS 2 (tkR 3 (txtR 1 xs)) (tkS 3 (txtR 1 xs) (txtS 1 xs sh))))) := ⟨rfl, rfl⟩
 rw [← HE4.out.1] at L4 HR4 HX4
 rw [← HE4.out.2] at L4
 have HEO : Hid (lkO xs = ⟨z0, z1, z2 - 1, z3, itL wtR wtO (cnt (lk3 xs)) (tkR 1 (lk3 xs))⟩) := by
  show _ = _
  unfold lkO nv
  rw [HZ0.out, HZ1.out, HZ2.out, HZ3.out]
 have HER : Hid (lkR xs = itR wtR (cnt (lk3 xs)) (tkR 1 (lk3 xs)) ∧ lkS xs sh = itS wtR wtS (cnt (lk3 xs)) (tkR 1 (lk3 xs)) (tkS 1 (lk3 xs) (lkS3 xs sh))) := ⟨rfl, rfl⟩
 have N4 := number_any 1 p B (lk3 xs) (lkS3 xs sh) _ L4.out.rd hB (by decide) HX4.out HR4.out
 have nb4 := nv_range (n := 1) HR4.out
 have hcn : beN (tkB 1 (lk3 xs)) = (cnt (lk3 xs) : Int) := by unfold cnt nv; unfold nv at nb4; omega
 have hc2 : cnt (lk3 xs) ≤ 255 := by
  simp only [show ((256 : Int) ^ 1) = 256 from rfl] at nb4
  unfold cnt; omega
 have HR5 : Hid (∀ x ∈ tkR 1 (lk3 xs), 0 ≤ x ∧ x ≤ 255) := tkR_range HR4.out
 have HX5 : Hid ((tkR 1 (lk3 xs)).length ≤ 70000) := Nat.le_trans (tkR_len _ _) HX4.out
 rw [hcn] at N4
 obtain ⟨n, HNN⟩ : ∃ n, Hid (cnt (lk3 xs) = n) := ⟨_, rfl⟩
 rw [HNN.out] at N4 hc2 HEO HER
 obtain ⟨ys, HYS⟩ : ∃ ys, Hid (tkR 1 (lk3 xs) = ys) := ⟨_, rfl⟩
 obtain ⟨s0, HS0⟩ : ∃ s0, Hid (tkS 1 (lk3 xs) (lkS3 xs sh) = s0) := ⟨_, rfl⟩
 rw [HYS.out] at N4 HEO HER HR5 HX5
 rw [HS0.out] at N4 HER
 clear nb4 hcn
 refine N4.mono ?_
 rintro e w5 ⟨rfl, r, g⟩
 have L5 : Hid (Lc w w5 p B 52 #[.string ⟨#[]⟩, .int .i64 0, .int .i64 0, .int .i64 0, .slice none 0 0] #[.string z0, .int .i64 z1, .int .i64 (z2 - 1), .int .i64 z3, .slice none 0 0] ys s0) := L4.out.num r g
 have HRY : Hid (∀ k, ∀ x ∈ itR wtR k ys, 0 ≤ x ∧ x ≤ 255) := fun k => (less_it less_wt k ys).2 HR5.out
 have HXY : Hid (∀ k, (itR wtR k ys).length ≤ 70000) := fun k => Nat.le_trans (less_it less_wt k ys).1 HX5.out
 clear r g L4 N4 HR4 HX4 HR5 HX5 HE4 HYS HS0
 go_wp2_with fail
 go_loopw [20] (fun i wr => ∃ (k : Nat) (a : Option Addr) (c : Nat), k ≤ n ∧ i = .int .i64 (k : Int) ∧ Hid (Lc w wr p B 52 #[.string ⟨#[]⟩, .int .i64 0, .int .i64 0, .int .i64 0, .slice none 0 0] #[.string z0, .int .i64 z1, .int .i64 (z2 - 1), .int .i64 z3, .slice a k c] (itR wtR k ys) (itS wtR wtS k ys s0) ∧ OwnW wr (w.heap.size + 2) (.slice a k c) (itL wtR wtO k ys))) (fun i _ => n - (intOf i).toNat)
 case atStart => exact ⟨0, none, 0, by omega, rfl, L5.out, OwnW.nil _ _⟩
 case round =>
  clear L5
  obtain ⟨k, a, c, hk, rfl, HT⟩ := hrel
  by_cases hlt : k < n
  ·have HLN : Hid ((itL wtR wtO k ys).length + 1 ≤ 1000000) := by show _ ≤ _; rw [itL_len]; omega
   have HES : Hid (itL wtR wtO (k + 1) ys = itL wtR wtO k ys ++ [wtO (itR wtR k ys)] ∧ itR wtR (k + 1) ys = tkR 2 (tkR 1 (itR wtR k ys)) ∧ itS wtR wtS (k + 1) ys s0 = tkS 2 (tkR 1 (itR wtR k ys)) (tkS 1 (itR wtR k ys) (itS wtR wtS k ys s0))) := ⟨rfl, rfl, rfl⟩
   have HLK : Hid ((itL wtR wtO (k + 1) ys).length = k + 1) := itL_len _ _ _ _
   have HRA : Hid (∀ x ∈ itR wtR k ys, 0 ≤ x ∧ x ≤ 255) := HRY.out k
   have HXA : Hid ((itR wtR k ys).length ≤ 70000) := HXY.out k
   obtain ⟨qs, HAS⟩ : ∃ qs, Hid (itR wtR k ys = qs) := ⟨_, rfl⟩
   obtain ⟨sa, HSA⟩ : ∃ sa, Hid (itS wtR wtS k ys s0 = sa) := ⟨_, rfl⟩
   obtain ⟨ms, HMS⟩ : ∃ ms, Hid (itL wtR wtO k ys = ms) := ⟨_, rfl⟩
   rw [HAS.out, HSA.out, HMS.out] at HT
   rw [HAS.out] at HRA HXA
   rw [HAS.out, HSA.out, HMS.out] at HES
   rw [HMS.out] at HLN
   have K0 : Hid (Lw w wr (wr.alloc (.cells #[.int .i64 0, .int .i64 0] 93)) p B #[.string ⟨#[]⟩, .int .i64 0, .int .i64 0, .int .i64 0, .slice none 0 0] #[.string z0, .int .i64 z1, .int .i64 (z2 - 1), .int .i64 z3, .slice a k c] (.slice a k c) ms #[.int .i64 0, .int .i64 0] qs sa) := Lw.start HT.out.1 HT.out.2 _
   clear HT
   go_wp2_with fail
   generalize wr.alloc (.cells #[.int .i64 0, .int .i64 0] 93) = q0 at K0 ⊢
   have M0 := number_any 1 p B qs sa _ K0.out.lc.rd hB (by decide) HXA.out HRA.out
   have HRB : Hid (∀ x ∈ tkR 1 qs, 0 ≤ x ∧ x ≤ 255) := tkR_range HRA.out
   have HXB : Hid ((tkR 1 qs).length ≤ 70000) := Nat.le_trans (tkR_len _ _) HXA.out
   obtain ⟨y0, HY0⟩ : ∃ z, Hid (beN (tkB 1 qs) = z) := ⟨_, rfl⟩
   rw [HY0.out] at M0
   refine M0.mono ?_
   rintro e q1 ⟨rfl, r, g⟩
   have l := K0.out.num r g
   obtain ⟨c0, f0⟩ := blk_cell l.xb 0 (x := .int .i64 0) rfl
   have K1 : Hid (Lw w wr (q1.setCell ⟨wr.heap.size, 0, none⟩ (.int .i64 y0)) p B #[.string ⟨#[]⟩, .int .i64 0, .int .i64 0, .int .i64 0, .slice none 0 0] #[.string z0, .int .i64 z1, .int .i64 (z2 - 1), .int .i64 z3, .slice a k c] (.slice a k c) ms #[.int .i64 y0, .int .i64 0] (tkR 1 qs) (tkS 1 qs sa)) := l.setx 0 _
   clear l r g K0 M0 HRA HXA
   go_wp2_with fail
   clear c0 f0
   generalize q1.setCell ⟨wr.heap.size, 0, none⟩ (.int .i64 y0) = q1' at K1 ⊢
   have M1 := number_any 2 p B (tkR 1 qs) (tkS 1 qs sa) _ K1.out.lc.rd hB (by decide) HXB.out HRB.out
   obtain ⟨y1, HY1⟩ : ∃ z, Hid (beN (tkB 2 (tkR 1 qs)) = z) := ⟨_, rfl⟩
   rw [HY1.out] at M1
   refine M1.mono ?_
   rintro e q2 ⟨rfl, r, g⟩
   have l := K1.out.num r g
   obtain ⟨c0, f0⟩ := blk_cell l.xb 1 (x := .int .i64 0) rfl
   have K2 : Hid (Lw w wr (q2.setCell ⟨wr.heap.size, 1, none⟩ (.int .i64 y1)) p B #[.string ⟨#[]⟩, .int .i64 0, .int .i64 0, .int .i64 0, .slice none 0 0] #[.string z0, .int .i64 z1, .int .i64 (z2 - 1), .int .i64 z3, .slice a k c] (.slice a k c) ms #[.int .i64 y0, .int .i64 y1] (tkR 2 (tkR 1 qs)) (tkS 2 (tkR 1 qs) (tkS 1 qs sa))) := l.setx 1 _
   have HWT : Hid (wtO qs = ⟨y0, y1⟩) := by show _ = _; unfold wtO nv; rw [HY0.out, HY1.out]
   clear l r g K1 M1 HRB HXB
   go_upto_region 11 with fail
   clear c0 f0
   generalize q2.setCell ⟨wr.heap.size, 1, none⟩ (.int .i64 y1) = q2' at K2 ⊢
   have x0 := (blk_cell K2.out.xb 0 (x := .int .i64 y0) rfl).1
   have x1 := (blk_cell K2.out.xb 1 (x := .int .i64 y1) rfl).1
   have c4 := (blk_cell K2.out.lc.b 4 (x := .slice a k c) rfl).1
   have HSZ : Hid (w.heap.size + 2 ≤ q2'.heap.size) := K2.out.lc.size
   have KO : OwnW (q2'.alloc (.cells #[.int .i64 y0, .int .i64 y1] 93)) (w.heap.size + 2) (.slice a k c) ms := K2.out.ow.alloc _
   have KL : Hid (Lc w (q2'.alloc (.cells #[.int .i64 y0, .int .i64 y1] 93)) p B 52 #[.string ⟨#[]⟩, .int .i64 0, .int .i64 0, .int .i64 0, .slice none 0 0] #[.string z0, .int .i64 z1, .int .i64 (z2 - 1), .int .i64 z3, .slice a k c] (tkR 2 (tkR 1 qs)) (tkS 2 (tkR 1 qs) (tkS 1 qs sa))) := K2.out.lc.alloc _
   have KR : Hid (RowW (q2'.alloc (.cells #[.int .i64 y0, .int .i64 y1] 93)) (.slice (some ⟨q2'.heap.size, 0, none⟩) 1 1) [⟨y0, y1⟩]) := row_one q2' ⟨y0, y1⟩
   clear K2
   go_wp2_with (at_builtin; go_must (refine appW (by rfl) _ _ 50 (by rfl) i0 Tryd.underlying50 hi0 hz0 hz1 hz2 (w.heap.size + 2) (q2'.alloc (.cells #[.int .i64 y0, .int .i64 y1] 93)) (q2'.alloc (.cells #[.int .i64 y0, .int .i64 y1] 93)) _ _ ms [⟨y0, y1⟩] (by rfl) KO (Below.refl _ _) (by rw [size_new]; have := HSZ.out; omega) (by rfl) KR.out (by have := HLN.out; simpa using this) ?_; intro v5 q5 o5 b5 k5; have l5 := KL.out.kept b5.size (fun g hg => (KO.lt g hg).1) b5 k5; obtain ⟨a5, cap5, rfl⟩ := o5.slice; obtain ⟨s5, f5⟩ := blk_cell l5.b 4 (x := .slice a k c) rfl))
   rw [← HWT.out, ← HES.out.1, HLK.out] at o5
   have HL6 : Hid (Lc w (q5.setCell ⟨w.heap.size + 1, 4, none⟩ (.slice a5 (k + 1) cap5)) p B 52 #[.string ⟨#[]⟩, .int .i64 0, .int .i64 0, .int .i64 0, .slice none 0 0] #[.string z0, .int .i64 z1, .int .i64 (z2 - 1), .int .i64 z3, .slice a5 (k + 1) cap5] (itR wtR (k + 1) ys) (itS wtR wtS (k + 1) ys s0) ∧ OwnW (q5.setCell ⟨w.heap.size + 1, 4, none⟩ (.slice a5 (k + 1) cap5)) (w.heap.size + 2) (.slice a5 (k + 1) cap5) (itL wtR wtO (k + 1) ys)) := by
    rw [HES.out.2.1, HES.out.2.2]
    exact ⟨l5.set 4 _, o5.kept fun g hg => blk_far (by have := (o5.lt g hg).1; omega) 4 _⟩
   have hml : ms.length = k := by rw [← HMS.out]; exact itL_len _ _ _ _
   simp only [hml]
   exact ⟨⟨k + 1, a5, cap5, by omega, by go_num, HL6⟩, by simp [intOf]; omega⟩
  ·obtain rfl : k = n := by omega
   have HQ := HT.out
   go_upto_region 13 with fail
   obtain ⟨ca0, fa0⟩ := blk_cell HQ.1.a 0 (x := .string ⟨#[]⟩) rfl
   have cb0 := (blk_cell HQ.1.b 0 (x := .string z0) rfl).1
   obtain ⟨ca1, fa1⟩ := blk_cell HQ.1.a 1 (x := .int .i64 0) rfl
   have cb1 := (blk_cell HQ.1.b 1 (x := .int .i64 z1) rfl).1
   obtain ⟨ca2, fa2⟩ := blk_cell HQ.1.a 2 (x := .int .i64 0) rfl
   have cb2 := (blk_cell HQ.1.b 2 (x := .int .i64 (z2 - 1)) rfl).1
   obtain ⟨ca3, fa3⟩ := blk_cell HQ.1.a 3 (x := .int .i64 0) rfl
   have cb3 := (blk_cell HQ.1.b 3 (x := .int .i64 z3) rfl).1
   obtain ⟨ca4, fa4⟩ := blk_cell HQ.1.a 4 (x := .slice none 0 0) rfl
   have cb4 := (blk_cell HQ.1.b 4 (x := .slice a k c) rfl).1
   have HFIN : Hid (Lc w (((((wr.setCell ⟨w.heap.size, 0, none⟩ (.string z0)).setCell ⟨w.heap.size, 1, none⟩ (.int .i64 z1)).setCell ⟨w.heap.size, 2, none⟩ (.int .i64 (z2 - 1))).setCell ⟨w.heap.size, 3, none⟩ (.int .i64 z3)).setCell ⟨w.heap.size, 4, none⟩ (.slice a k c)) p B 52 #[.string z0, .int .i64 z1, .int .i64 (z2 - 1), .int .i64 z3, .slice a k c] #[.string z0, .int .i64 z1, .int .i64 (z2 - 1), .int .i64 z3, .slice a k c] (itR wtR k ys) (itS wtR wtS k ys s0) ∧ OwnW (((((wr.setCell ⟨w.heap.size, 0, none⟩ (.string z0)).setCell ⟨w.heap.size, 1, none⟩ (.int .i64 z1)).setCell ⟨w.heap.size, 2, none⟩ (.int .i64 (z2 - 1))).setCell ⟨w.heap.size, 3, none⟩ (.int .i64 z3)).setCell ⟨w.heap.size, 4, none⟩ (.slice a k c)) (w.heap.size + 2) (.slice a k c) (itL wtR wtO k ys)) :=
    ⟨HQ.1.far0 0 _ |>.far0 1 _ |>.far0 2 _ |>.far0 3 _ |>.far0 4 _, HQ.2.kept fun g hg => by have h2 := (HQ.2.lt g hg).1; exact (blk_far (by omega) 4 _).trans ((blk_far (by omega) 3 _).trans ((blk_far (by omega) 2 _).trans ((blk_far (by omega) 1 _).trans (blk_far (by omega) 0 _))))⟩
   clear HQ HT
   go_wp2_with fail
   generalize (((((wr.setCell ⟨w.heap.size, 0, none⟩ (.string z0)).setCell ⟨w.heap.size, 1, none⟩ (.int .i64 z1)).setCell ⟨w.heap.size, 2, none⟩ (.int .i64 (z2 - 1))).setCell ⟨w.heap.size, 3, none⟩ (.int .i64 z3)).setCell ⟨w.heap.size, 4, none⟩ (.slice a k c)) = wf at HFIN ⊢
   have d0 := (blk_cell HFIN.out.1.a 0 (x := .string z0) rfl).1
   have d1 := (blk_cell HFIN.out.1.a 1 (x := .int .i64 z1) rfl).1
   have d2 := (blk_cell HFIN.out.1.a 2 (x := .int .i64 (z2 - 1)) rfl).1
   have d3 := (blk_cell HFIN.out.1.a 3 (x := .int .i64 z3) rfl).1
   have d4 := (blk_cell HFIN.out.1.a 4 (x := .slice a k c) rfl).1
   refine bodyPost_ret (v := .agg #[.string z0, .int .i64 z1, .int .i64 (z2 - 1), .int .i64 z3, .slice a k c]) (by simp [results, Tryd.results61, go_sem, d0, d1, d2, d3, d4]) rfl ⟨.slice a k c, ?_, ?_, ?_, HFIN.out.1.gr⟩
   ·rw [HEO.out]; rfl
   ·rw [HEO.out]; exact HFIN.out.2.mono (by omega)
   ·rw [HER.out.1, HER.out.2]; exact HFIN.out.1.rd
end Go.Proofs.YtakfniknkejgpaaDoor.Ur

/- A table is taken off the wire (impl.takeTable). -/
namespace Go.Proofs.YtakfniknkejgpaaDoor.Ur
open Go.RowKit Go.Proofs.YtakfniknkejgpaaDoor.Sl Go.Proofs.YtakfniknkejgpaaDoor.By Go.Proofs.YtakfniknkejgpaaDoor.Ap Go.Proofs.YtakfniknkejgpaaDoor.Rr Go.Proofs.YtakfniknkejgpaaDoor.Tb Go.Proofs.YtakfniknkejgpaaDoor.Tw
open Go.Proofs.YtakfniknkejgpaaDoor.Wa (OwnW OwnS clS oneS infoS)
open Go.Proofs.YtakfniknkejgpaaDoor.Lo (LkA uV clL oneL OwnL own_block kind_ne infoL)

def tb2 (xs : List Int) : List Int := tkR 3 (tkR 4 xs)
def tbA (xs : List Int) : List Int := tkR 1 (tb2 xs)
def tbB (xs : List Int) : List Int := itR lkR (cnt (tb2 xs)) (tbA xs)
def tbC (xs : List Int) : List Int := tkR 1 (tbB xs)
def tbR (xs : List Int) : List Int := itR snR (cnt (tbB xs)) (tbC xs)
def tbO (xs : List Int) : Tab := ⟨nv 4 xs, nv 3 (tkR 4 xs), itL lkR lkO (cnt (tb2 xs)) (tbA xs), itL snR snO (cnt (tbB xs)) (tbC xs)⟩
def tbS1 (xs : List Int) (sh : Bool) : Bool := tkS 1 (tb2 xs) (tkS 3 (tkR 4 xs) (tkS 4 xs sh))
def tbS2 (xs : List Int) (sh : Bool) : Bool := tkS 1 (tbB xs) (itS lkR lkS (cnt (tb2 xs)) (tbA xs) (tbS1 xs sh))
def tbS (xs : List Int) (sh : Bool) : Bool := itS snR snS (cnt (tbB xs)) (tbC xs) (tbS2 xs sh)
def Apart (x y : LkA) : Prop := ∀ g, (uV x).ownBlock = some g → (uV y).ownBlock ≠ some g
structure Mem (W : World) (B : Nat) (v2 v3 : Value) (ms : List LkA) (ss : List Sn) : Prop where
 ol : OwnL W B v2 ms
 ow : ∀ m ∈ ms, OwnW W B (uV m) m.1.ws
 di : ms.Pairwise Apart
 os : OwnS W B v3 ss
theorem Mem.kept {W W' : World} {B : Nat} {v2 v3 : Value} {ms : List LkA} {ss : List Sn} (h : Mem W B v2 v3 ms ss) (hk : ∀ g, B ≤ g → g < W.heap.size → W'.heap[g]? = W.heap[g]?) : Mem W' B v2 v3 ms ss :=
 ⟨h.ol.kept fun g hg => hk g (h.ol.lt g hg).1 (h.ol.lt g hg).2, fun m hm => (h.ow m hm).kept fun g hg => hk g ((h.ow m hm).lt g hg).1 ((h.ow m hm).lt g hg).2, h.di, h.os.kept fun g hg => hk g (h.os.lt g hg).1 (h.os.lt g hg).2⟩
structure Tt (w W : World) (p B : Nat) (tm nx : Int) (v2 v3 : Value) (ms : List LkA) (ss : List Sn) (xs : List Int) (sh : Bool) : Prop where
 lc : Lc w W p B 26 #[.int .i64 0, .int .i64 0, .slice none 0 0, .slice none 0 0] #[.int .i64 tm, .int .i64 nx, v2, v3] xs sh
 me : Mem W (w.heap.size + 2) v2 v3 ms ss
section
variable {w W W' : World} {p B : Nat} {tm nx : Int} {v2 v3 : Value} {ms : List LkA} {ss : List Sn} {xs ys : List Int} {sh sb : Bool}
theorem Lc.drew {t : TypeId} {z cs : Array Value} (h : Lc w W p B t z cs xs sh) : Lc w W.drew p B t z cs xs sh := ⟨h.a, h.b, h.rd, ⟨h.gr.os, h.gr.tape, h.gr.output, h.gr.size, h.gr.block⟩, h.pl⟩
theorem Tt.drew (h : Tt w W p B tm nx v2 v3 ms ss xs sh) : Tt w W.drew p B tm nx v2 v3 ms ss xs sh := ⟨h.lc.drew, h.me.kept fun _ _ _ => rfl⟩
theorem Tt.num (h : Tt w W p B tm nx v2 v3 ms ss xs sh) (r : Rdr B W' p ys sb) (g : W.grownBy W' (some p)) : Tt w W' p B tm nx v2 v3 ms ss ys sb :=
 ⟨h.lc.num r g, h.me.kept fun k hk hl => g.block k hl (by have := h.lc.pl; simp; omega)⟩
theorem Tt.alloc (h : Tt w W p B tm nx v2 v3 ms ss xs sh) (o : Obj) : Tt w (W.alloc o) p B tm nx v2 v3 ms ss xs sh := ⟨h.lc.alloc o, h.me.kept fun _ _ hl => Below.heap_alloc _ _ _ hl⟩
theorem Tt.c2 (h : Tt w W p B tm nx v2 v3 ms ss xs sh) : W.cell? ⟨w.heap.size + 1, 2, none⟩ = some v2 := (blk_cell h.lc.b 2 (x := v2) rfl).1
theorem Tt.c3 (h : Tt w W p B tm nx v2 v3 ms ss xs sh) : W.cell? ⟨w.heap.size + 1, 3, none⟩ = some v3 := (blk_cell h.lc.b 3 (x := v3) rfl).1
end
structure Tn (w W : World) (p B : Nat) (tm nx : Int) (v2 v3 : Value) (ms : List LkA) (m : LkA) (ss : List Sn) (xs : List Int) (sh : Bool) : Prop where
 tt : Tt w W p B tm nx v2 v3 ms ss xs sh
 nw : OwnW W (w.heap.size + 2) (uV m) m.1.ws
 ap : ∀ x ∈ ms, Apart x m
section
variable {w W W' : World} {p B : Nat} {tm nx : Int} {v2 v3 : Value} {ms : List LkA} {m : LkA} {ss : List Sn} {xs ys : List Int} {sh sb : Bool}
theorem Tn.drew (h : Tn w W p B tm nx v2 v3 ms m ss xs sh) : Tn w W.drew p B tm nx v2 v3 ms m ss xs sh := ⟨h.tt.drew, h.nw.kept fun _ _ => rfl, h.ap⟩
theorem Tn.alloc (h : Tn w W p B tm nx v2 v3 ms m ss xs sh) (o : Obj) : Tn w (W.alloc o) p B tm nx v2 v3 ms m ss xs sh := ⟨h.tt.alloc o, h.nw.alloc o, h.ap⟩
theorem Tn.c2 (h : Tn w W p B tm nx v2 v3 ms m ss xs sh) : W.cell? ⟨w.heap.size + 1, 2, none⟩ = some v2 := h.tt.c2
end
structure Td (w W : World) (p B : Nat) (tm nx : Int) (v2 v3 u2 u3 : Value) (ms : List LkA) (ss : List Sn) (xs : List Int) (sh : Bool) : Prop where
 lc : Lc w W p B 26 #[.int .i64 0, .int .i64 0, .slice none 0 0, .slice none 0 0] #[.int .i64 tm, .int .i64 nx, v2, v3] xs sh
 me : Mem W (w.heap.size + 2) u2 u3 ms ss
section
variable {w W W' : World} {p B : Nat} {tm nx : Int} {v2 v3 u2 u3 : Value} {ms : List LkA} {ss : List Sn} {xs : List Int} {sh : Bool}
theorem Td.c2 (h : Td w W p B tm nx v2 v3 u2 u3 ms ss xs sh) : W.cell? ⟨w.heap.size + 1, 2, none⟩ = some v2 ∧ W.frozen? ⟨w.heap.size + 1, 2, none⟩ = false := blk_cell h.lc.b 2 (x := v2) rfl
theorem Td.c3 (h : Td w W p B tm nx v2 v3 u2 u3 ms ss xs sh) : W.cell? ⟨w.heap.size + 1, 3, none⟩ = some v3 ∧ W.frozen? ⟨w.heap.size + 1, 3, none⟩ = false := blk_cell h.lc.b 3 (x := v3) rfl
theorem Td.set2 (h : Td w W p B tm nx v2 v3 u2 v3 ms ss xs sh) : Tt w (W.setCell ⟨w.heap.size + 1, 2, none⟩ u2) p B tm nx u2 v3 ms ss xs sh := ⟨h.lc.set 2 u2, h.me.kept fun g hg _ => blk_far (by omega) 2 u2⟩
theorem Td.set3 (h : Td w W p B tm nx v2 v3 v2 u3 ms ss xs sh) : Tt w (W.setCell ⟨w.heap.size + 1, 3, none⟩ u3) p B tm nx v2 u3 ms ss xs sh := ⟨h.lc.set 3 u3, h.me.kept fun g hg _ => blk_far (by omega) 3 u3⟩
end
theorem pair_snoc {ms : List LkA} {m : LkA} (h : ms.Pairwise Apart) (hm : ∀ x ∈ ms, Apart x m) : (ms ++ [m]).Pairwise Apart := by
 rw [List.pairwise_append]
 exact ⟨h, List.pairwise_singleton _ _, fun x hx y hy => by rw [List.mem_singleton.1 hy]; exact hm x hx⟩
theorem step_lk {P : Program} {ops : Array Oper} {o : Oper} {a : Act} {K : Act → World → Prop} {Q : Exit → Act → World → Prop} {E : Prop} {i : TypeInfo} (hgd : o.guard = none) (s z : Operand) (t : TypeId) (ho : o.op = .call { callee := .builtin .append, args := #[s, z], argTypes := #[t, t] }) (ht : P.underlying t = some (.slice 52)) (hi : P.info? 52 = some i) (hz : i.zero = some (.agg #[.string ⟨#[]⟩, .int .i64 0, .int .i64 0, .int .i64 0, .slice none 0 0]))
 (hsize : i.size = 5) (hby : i.bytes = 64) (W w : World) (p B : Nat) (tm nx : Int) (v2 v3 : Value) (ms : List LkA) (m : LkA) (ss : List Sn) (xs : List Int) (sh : Bool) (hs : a.eval s = v2) (gx : Nat) (hx : a.eval z = .slice (some ⟨gx, 0, none⟩) 1 1) (hbx : W.heap[gx]? = some (.cells #[.string m.1.n, .int .i64 m.1.t, .int .i64 m.1.h, .int .i64 m.1.e, .slice m.2.1 m.1.ws.length m.2.2] 52 (0, 0)))
 (htb : Tn w W p B tm nx v2 v3 ms m ss xs sh) (hlen : ms.length ≤ 1000000)
 (h : ∀ v' w', Td w w' p B tm nx v2 v3 v' v3 (ms ++ [m]) ss xs sh → K (a.put o.dst v') w') : if Region.wanted o (yielded ops a.tmps) = true then Oper.wp P o a W K Q else E := by
 have hw : Region.wanted o (yielded ops a.tmps) = true := by simp [Region.wanted, hgd]
 rw [if_pos hw]
 have hol := htb.tt.me.ol
 have hsz := htb.tt.lc.size
 obtain ⟨v', w', hr, h2, h3, _, h5⟩ := run_append_own_at (P := P) W (w.heap.size + 2) t o.type 52 i _ 5 64 ht hi hz hsize hby rfl (by decide) v2 ms.length _ hol ⟨gx, 0, none⟩ 1 1 (clL m) rfl (by
  intro j u hj
  have e2 : (⟨gx, 0, none⟩ : Addr).add j = ⟨gx, j, none⟩ := by unfold Addr.add; split <;> simp_all
  rw [e2, Joins.cell_of_block hbx, ← hj]
  simp [clL, uV]) (oneL m) (by unfold maxLen; omega) (by omega) hsz
 have kp : ∀ k, k < W.heap.size → some k ≠ v2.ownBlock → w'.heap[k]? = W.heap[k]? := fun k hk hn => h3.block k hk hn
 have hbel : Below (w.heap.size + 2) W w' := ⟨h3.os, h3.tape, h3.output, h3.size, fun k hk => kp k (by omega) (fun e => by have := (hol.lt k e.symm).1; omega)⟩
 have fw : ∀ (u : Value) (ws : List Wt), OwnW W (w.heap.size + 2) u ws → OwnW w' (w.heap.size + 2) u ws := fun u ws hu => hu.kept fun g hg => kp g (hu.lt g hg).2 fun e => by
  obtain ⟨c1, e1⟩ := own_block hu hg
  obtain ⟨c2, e2⟩ := own_block hol e.symm
  exact kind_ne e1 e2 (by decide) rfl
 refine wp_app ho hs hx hr (h v' w' ⟨htb.tt.lc.kept h3.size (fun g hg => (hol.lt g hg).1) hbel kp, ⟨by unfold OwnL; rw [List.flatMap_append, List.length_append]; simpa using h2, ?_, pair_snoc htb.tt.me.di htb.ap, ?_⟩⟩)
 ·intro x hx
  rcases List.mem_append.1 hx with hx | hx
  ·exact fw _ _ (htb.tt.me.ow x hx)
  ·rw [List.mem_singleton.1 hx]; exact fw _ _ htb.nw
 ·exact htb.tt.me.os.kept fun g hg => kp g (htb.tt.me.os.lt g hg).2 fun e => by
   obtain ⟨c1, e1⟩ := own_block htb.tt.me.os hg
   obtain ⟨c2, e2⟩ := own_block hol e.symm
   exact kind_ne e1 e2 (by decide) rfl
theorem step_sn {P : Program} {ops : Array Oper} {o : Oper} {a : Act} {K : Act → World → Prop} {Q : Exit → Act → World → Prop} {E : Prop} {i : TypeInfo} (hgd : o.guard = none) (s z : Operand) (t : TypeId) (ho : o.op = .call { callee := .builtin .append, args := #[s, z], argTypes := #[t, t] }) (ht : P.underlying t = some (.slice 57)) (hi : P.info? 57 = some i) (hz : i.zero = some (.agg #[.int .i64 0, .int .i64 0, .int .i64 0, .int .i64 0, .int .i64 0, .int .i64 0]))
 (hsize : i.size = 6) (hby : i.bytes = 48) (W w : World) (p B : Nat) (tm nx : Int) (v2 v3 : Value) (ms : List LkA) (ss : List Sn) (m : Sn) (xs : List Int) (sh : Bool) (hs : a.eval s = v3) (gx : Nat) (hx : a.eval z = .slice (some ⟨gx, 0, none⟩) 1 1) (hbx : W.heap[gx]? = some (.cells #[.int .i64 m.c, .int .i64 m.s, .int .i64 m.k, .int .i64 m.t, .int .i64 m.h, .int .i64 m.e] 57 (0, 0)))
 (htb : Tt w W p B tm nx v2 v3 ms ss xs sh) (hlen : ss.length ≤ 1000000)
 (h : ∀ v' w', Td w w' p B tm nx v2 v3 v2 v' ms (ss ++ [m]) xs sh → K (a.put o.dst v') w') : if Region.wanted o (yielded ops a.tmps) = true then Oper.wp P o a W K Q else E := by
 have hw : Region.wanted o (yielded ops a.tmps) = true := by simp [Region.wanted, hgd]
 rw [if_pos hw]
 have hol := htb.me.os
 have hsz := htb.lc.size
 obtain ⟨v', w', hr, h2, h3, _, h5⟩ := run_append_own_at (P := P) W (w.heap.size + 2) t o.type 57 i _ 6 48 ht hi hz hsize hby rfl (by decide) v3 ss.length _ hol ⟨gx, 0, none⟩ 1 1 (clS m) rfl (by
  intro j u hj
  have e2 : (⟨gx, 0, none⟩ : Addr).add j = ⟨gx, j, none⟩ := by unfold Addr.add; split <;> simp_all
  rw [e2, Joins.cell_of_block hbx, ← hj]
  simp [clS]) (oneS m) (by unfold maxLen; omega) (by omega) hsz
 have kp : ∀ k, k < W.heap.size → some k ≠ v3.ownBlock → w'.heap[k]? = W.heap[k]? := fun k hk hn => h3.block k hk hn
 have hbel : Below (w.heap.size + 2) W w' := ⟨h3.os, h3.tape, h3.output, h3.size, fun k hk => kp k (by omega) (fun e => by have := (hol.lt k e.symm).1; omega)⟩
 refine wp_app ho hs hx hr (h v' w' ⟨htb.lc.kept h3.size (fun g hg => (hol.lt g hg).1) hbel kp, ⟨?_, ?_, htb.me.di, by unfold OwnS; rw [List.flatMap_append, List.length_append]; simpa using h2⟩⟩)
 ·exact htb.me.ol.kept fun g hg => kp g (htb.me.ol.lt g hg).2 fun e => by
   obtain ⟨c1, e1⟩ := own_block htb.me.ol hg
   obtain ⟨c2, e2⟩ := own_block hol e.symm
   exact kind_ne e1 e2 (by decide) rfl
 ·intro x hx
  exact (htb.me.ow x hx).kept fun g hg => kp g ((htb.me.ow x hx).lt g hg).2 fun e => by
   obtain ⟨c1, e1⟩ := own_block (htb.me.ow x hx) hg
   obtain ⟨c2, e2⟩ := own_block hol e.symm
   exact kind_ne e1 e2 (by decide) rfl
end Go.Proofs.YtakfniknkejgpaaDoor.Ur
