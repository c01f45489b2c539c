/- Texts put together: Gq, Qc, Rg, Gr, Bo. -/
import Derived.Test.YtkfiahemgdppfaaGreatDoorM1
import Derived.BigRegion
import Derived.Test.YtkfiahemgdppfaaGreatDoorProg
import Derived.RowKit
import Derived.Below
import Derived.BigQuiet
import Derived.Test.YtkfiahemgdppfaaGreatDoorM0
import Derived.Lib.SmallJoins
import Derived.Laws.MakeOwn
import Derived.Laws.NewBlocks
import Derived.Deep.QuietTactic
import Derived.Deep.Slices
import Derived.Deep.Fields23
import Derived.OpenShut
import Derived.Deep.RegionLaw
import Derived.Laws.ResultCell
import Derived.Deep.CutRange
import Derived.Deep.DeepCutAuto
import Derived.Deep.RegionWith
import Derived.Laws.StructEq
/- The specification's source of choices. -/
namespace Go.Proofs.YtkfiahemgdppfaaGreatDoor.Gn
open Go.RowKit Go.Proofs.YtkfiahemgdppfaaGreatDoor.Sl Go.Proofs.YtkfiahemgdppfaaGreatDoor.By Go.Proofs.YtkfiahemgdppfaaGreatDoor.Ap Go.Proofs.YtkfiahemgdppfaaGreatDoor.Rq Go.Proofs.YtkfiahemgdppfaaGreatDoor.Rr Go.Proofs.YtkfiahemgdppfaaGreatDoor.Ty

/-- A source in block p: its code, where it stands (at most K), its seed. -/
def Src (B : Nat) (w : World) (p : Nat) (xs : List Int) (K : Nat) : Prop :=
  ∃ (v : Value) (at_ : Nat) (sd : Int), w.heap[p]? = some (.cells #[v, .int .i64 at_, .int .i64 sd] 89 (0, 0)) ∧ RowU B w v xs ∧ at_ ≤ K ∧ 0 ≤ sd ∧ sd < 2147483648
theorem Src.lt {B p K : Nat} {w : World} {xs : List Int} (h : Src B w p xs K) : p < w.heap.size := by
  obtain ⟨v, a, s, h1, _⟩ := h
  exact (Array.getElem?_eq_some_iff.1 h1).1
theorem Src.kept {B p K : Nat} {w w' : World} {xs : List Int} (h : Src B w p xs K) (hp : w'.heap[p]? = w.heap[p]?) (hb : ∀ k, k < B → w'.heap[k]? = w.heap[k]?) : Src B w' p xs K := by
  obtain ⟨v, a, s, h1, h2, h3⟩ := h
  exact ⟨v, a, s, hp.trans h1, h2.kept hb, h3⟩

theorem src_end {B p K at_ : Nat} {w : World} {xs : List Int} {v : Value} {sd : Int} (h : w.heap[p]? = some (.cells #[v, .int .i64 ((at_ : Int) + 1), .int .i64 sd] 89 (0, 0))) (hu : RowU B w v xs) (ha : at_ ≤ K) (h0 : 0 ≤ sd) (h1 : sd < 2147483648) : Src B w p xs (K + 1) :=
  ⟨v, at_ + 1, sd, by rw [show (((at_ + 1 : Nat)) : Int) = (at_ : Int) + 1 by omega]; exact h, hu, by omega, h0, h1⟩
set_option maxRecDepth 100000 in
set_option maxHeartbeats 1600000 in
theorem byte_any (p B K : Nat) (xs : List Int) (w : World) (h : Src B w p xs K) (hB : B ≤ p) (hK : K ≤ 1000000000) (_hx : xs.length ≤ 1048600) :
    Calls Tryz.prog 83 #[.pointer (some ⟨p, 0, none⟩)] w fun e w' => ∃ r : Int, e = .returned (.int .i64 r) ∧ 0 ≤ r ∧ r ≤ 255 ∧ Src B w' p xs (K + 1) ∧ w.grownBy w' (some p) := by
  have hp := h.lt
  obtain ⟨v, at_, sd, h1, hu, hat, hs0, hs1⟩ := h
  obtain ⟨c0, f0⟩ := blk_cell h1 0 (x := v) rfl
  obtain ⟨c1, f1⟩ := blk_cell h1 1 (x := .int .i64 at_) rfl
  obtain ⟨c2, f2⟩ := blk_cell h1 2 (x := .int .i64 sd) rfl
  have HU : Hid (RowU B w v xs) := hu
  obtain ⟨a, cap, rfl, hcap, hc, hr⟩ := hu
  have H1 : Hid (w.heap[p]? = some (.cells #[.slice a xs.length cap, .int .i64 at_, .int .i64 sd] 89 (0, 0))) := h1
  have HR : Hid (∀ x ∈ xs, 0 ≤ x ∧ x ≤ 255) := hr
  clear h1 hr
  by_cases hlt : at_ < xs.length
  · have hlt' : (at_ : Int) + 1 ≤ (xs.length : Int) := by omega
    rcases hc with hc | ⟨b, off, rfl, hb, hcell⟩
    · exact absurd hlt (by rw [hc]; simp)
    have hc1 := hcell at_ hlt
    have hne : b ≠ p := by omega
    have hx1 := range_at HR.out at_
    clear hcell
    go_enter Tryz.func83, Tryz.ntmps83
    go_wp2_with fail
    go_quiet (fail)
    go_wp2_with fail
    have H2 : ((w.setCell ⟨p, 1, none⟩ (.int .i64 ((at_ : Int) + 1))).drewN nq).heap[p]? = some (.cells #[.slice (some ⟨b, off, none⟩) xs.length cap, .int .i64 ((at_ : Int) + 1), .int .i64 sd] 89 (0, 0)) := blk_set H1.out 1 (.int .i64 ((at_ : Int) + 1))
    have G2 : w.grownBy ((w.setCell ⟨p, 1, none⟩ (.int .i64 ((at_ : Int) + 1))).drewN nq) (some p) := by
      have g := grown_set (w := w) (p := p) 1 (.int .i64 ((at_ : Int) + 1))
      exact ⟨g.os, g.tape, g.output, g.size, g.block⟩
    have X2 : ((w.setCell ⟨p, 1, none⟩ (.int .i64 ((at_ : Int) + 1))).drewN nq).cell? ⟨b, off + at_, none⟩ = some (.int .u8 (nth xs at_)) := (World.cell?_of_block (a := ⟨b, off + at_, none⟩) (below_kept G2 hB hp b hb)).trans hc1
    generalize (w.setCell ⟨p, 1, none⟩ (.int .i64 ((at_ : Int) + 1))).drewN nq = w2 at H2 G2 X2 ⊢
    clear c0 c1 c2 f0 f1 f2 hc1
    obtain ⟨c0, f0⟩ := blk_cell H2 0 (x := .slice (some ⟨b, off, none⟩) xs.length cap) rfl
    obtain ⟨c1, f1⟩ := blk_cell H2 1 (x := .int .i64 ((at_ : Int) + 1)) rfl
    obtain ⟨c2, f2⟩ := blk_cell H2 2 (x := .int .i64 sd) rfl
    have HH2 : Hid (w2.heap[p]? = some (.cells #[.slice (some ⟨b, off, none⟩) xs.length cap, .int .i64 ((at_ : Int) + 1), .int .i64 sd] 89 (0, 0))) := H2
    clear H2
    refine Qt.region_quiet_tail 23 (by kernel_rfl) (by kernel_rfl) ?_
    simp only [List.take_succ_cons, List.take_zero, List.drop_succ_cons, List.drop_zero]
    repeat (go_big_quiet_step (fail))
    refine wpQuiet_nil ?_
    go_wp2_with fail
    go_quiet (fail)
    go_wp2_with fail
    go_ret
    refine ⟨nth xs at_, rfl, hx1.1, hx1.2, src_end (at_ := at_) (sd := (sd * 31 + nth xs at_ + 7) % 2147483648) ?_ (HU.out.kept ?_) hat (by omega) (by omega), ?_⟩
    · exact blk_set HH2.out 2 (.int .i64 ((sd * 31 + nth xs at_ + 7) % 2147483648))
    · exact fun k hk => (blk_far (w := w2) (b := p) (by omega) 2 (.int .i64 ((sd * 31 + nth xs at_ + 7) % 2147483648))).trans (below_kept G2 hB hp k hk)
    · have g := grown_trans G2 (grown_set (w := w2) (p := p) 2 (.int .i64 ((sd * 31 + nth xs at_ + 7) % 2147483648)))
      exact ⟨g.os, g.tape, g.output, g.size, g.block⟩
  · have hlt' : ¬ (at_ : Int) + 1 ≤ (xs.length : Int) := by omega
    clear hc
    by_cases h3 : 3000 < at_ + 1
    · have h3' : (3000 : Int) < (at_ : Int) + 1 := by omega
      go_enter Tryz.func83, Tryz.ntmps83
      go_wp2_with fail
      go_quiet (fail)
      go_wp2_with fail
      go_ret
      refine ⟨0, rfl, by decide, by decide, src_end (at_ := at_) (sd := sd) ?_ (HU.out.kept ?_) hat hs0 hs1, ?_⟩
      · exact blk_set H1.out 1 (.int .i64 ((at_ : Int) + 1))
      · exact fun k hk => blk_far (w := w) (b := p) (by omega) 1 (.int .i64 ((at_ : Int) + 1))
      · have g := grown_set (w := w) (p := p) 1 (.int .i64 ((at_ : Int) + 1))
        exact ⟨g.os, g.tape, g.output, g.size, g.block⟩
    · have h3' : ¬ (3000 : Int) < (at_ : Int) + 1 := by omega
      go_enter Tryz.func83, Tryz.ntmps83
      go_wp2_with fail
      go_quiet (fail)
      go_wp2_with fail
      go_ret
      refine ⟨(sd * 1103515245 + 12345) % 2147483648 / 65536 % 256, rfl, by omega, by omega, src_end (at_ := at_) (sd := (sd * 1103515245 + 12345) % 2147483648) ?_ (HU.out.kept ?_) hat (by omega) (by omega), ?_⟩
      · exact blk_set (blk_set H1.out 1 (.int .i64 ((at_ : Int) + 1))) 2 (.int .i64 ((sd * 1103515245 + 12345) % 2147483648))
      · exact fun k hk => (blk_far (w := w.setCell ⟨p, 1, none⟩ (.int .i64 ((at_ : Int) + 1))) (b := p) (by omega) 2 (.int .i64 ((sd * 1103515245 + 12345) % 2147483648))).trans (blk_far (w := w) (b := p) (by omega) 1 (.int .i64 ((at_ : Int) + 1)))
      · have g := grown_trans (grown_set (w := w) (p := p) 1 (.int .i64 ((at_ : Int) + 1))) (grown_set (w := w.setCell ⟨p, 1, none⟩ (.int .i64 ((at_ : Int) + 1))) (p := p) 2 (.int .i64 ((sd * 1103515245 + 12345) % 2147483648)))
        exact ⟨g.os, g.tape, g.output, g.size, g.block⟩

set_option maxHeartbeats 800000 in
/-- next of at most 256. -/
theorem next_any (n p B K : Nat) (xs : List Int) (w : World) (h : Src B w p xs K) (hB : B ≤ p) (hK : K ≤ 1000000000) (hx : xs.length ≤ 1048600) (hn : 0 < n) (hn2 : n ≤ 256) :
    Calls Tryz.prog 53 #[.pointer (some ⟨p, 0, none⟩), .int .i64 n] w fun e w' => ∃ r : Nat, e = .returned (.int .i64 r) ∧ r < n ∧ Src B w' p xs (K + 1) ∧ w.grownBy w' (some p) := by
  by_cases h1 : n ≤ 1
  · have h1' : (n : Int) ≤ 1 := by omega
    obtain ⟨v, a, s, q1, q2, q3, q4⟩ := h
    have HS : Hid (Src B w p xs (K + 1)) := ⟨v, a, s, q1, q2, by omega, q4⟩
    clear q1 q2 q3 q4
    go_enter Tryz.func53, Tryz.ntmps53
    go_wp2_with fail
    go_ret
    exact ⟨0, rfl, hn, HS.out, grown_refl _ _⟩
  · have h1' : ¬ (n : Int) ≤ 1 := by omega
    have h2' : (n : Int) ≤ 256 := by omega
    go_enter Tryz.func53, Tryz.ntmps53
    go_wp2_with fail
    refine (byte_any p B K xs _ h hB hK hx).mono ?_
    rintro e w1 ⟨r, rfl, r0, r1, s1, g1⟩
    obtain ⟨m, rfl⟩ : ∃ m : Nat, r = m := ⟨r.toNat, by omega⟩
    have hnz : ¬ (n : Int) = 0 := by omega
    have HSS : Hid (Src B w1 p xs (K + 1)) := s1
    clear s1 h
    go_wp2_with fail
    go_ret
    exact ⟨m % n, rfl, Nat.mod_lt _ hn, HSS.out, g1⟩
theorem Src.alloc {B p K : Nat} {w : World} {xs : List Int} (h : Src B w p xs K) (hB : B ≤ p) (o : Obj) : Src B (w.alloc o) p xs K :=
  h.kept (Below.heap_alloc w o p h.lt) (fun k hk => Below.heap_alloc w o k (by have := h.lt; omega))
set_option maxHeartbeats 800000 in
theorem pick_any (b n p B K : Nat) (A : Array Value) (ts : List ByteArray) (xs : List Int) (w : World) (h : Src B w p xs K) (hB : B ≤ p) (hK : K ≤ 1000000000) (hx : xs.length ≤ 1048600) (hn : 0 < n) (hn2 : n ≤ 256) (hb : w.heap[b]? = some (.cells A 9 (0, 0))) (hbp : b ≠ p) (hA : ∀ j, j < n → A[j]? = some (.string (tnth ts j))) :
    Calls Tryz.prog 133 #[.pointer (some ⟨p, 0, none⟩), .slice (some ⟨b, 0, none⟩) n n] w fun e w' => ∃ r : Nat, e = .returned (.string (tnth ts r)) ∧ r < n ∧ Src B w' p xs (K + 1) ∧ w.grownBy w' (some p) := by
  have h0 : ¬ (n : Int) = 0 := by omega
  have h0' : ((n : Int) == 0) = false := by simp; omega
  have HB : Hid (w.heap[b]? = some (.cells A 9 (0, 0))) := hb
  have HA : Hid (∀ j, j < n → A[j]? = some (.string (tnth ts j))) := hA
  clear hb hA
  go_enter Tryz.func133, Tryz.ntmps133
  go_wp2_with fail
  refine (next_any n p B K xs _ h hB hK hx hn hn2).mono ?_
  rintro e w1 ⟨r, rfl, hr, s1, g1⟩
  have HS : Hid (Src B w1 p xs (K + 1)) := s1
  have c1 := (blk_cell (blk_kept HB.out g1 hbp) r (HA.out r hr)).1
  have hr' : (r : Int) < (n : Int) := by omega
  clear s1 h
  go_wp2_with fail
  go_ret
  exact ⟨r, rfl, hr, HS.out, g1⟩

set_option maxHeartbeats 400000 in
theorem source_any (v : Value) (xs : List Int) (w : World) (h : RowB w v xs) (hx : xs.length ≤ 1048600) :
    Calls Tryz.prog 16 #[v] w fun e w' => e = .returned (.pointer (some ⟨w.heap.size, 0, none⟩)) ∧ Src w.heap.size w' w.heap.size xs 0 ∧ Below w.heap.size w w' := by
  have HU : Hid (RowU w.heap.size w v xs) := RowU.of h
  obtain ⟨a, cap, rfl, _, _⟩ := h
  go_enter Tryz.func16, Tryz.ntmps16
  go_wp2_with fail
  go_ret
  refine ⟨rfl, ⟨_, 0, (xs.length : Int) % 1000, blk_new _ _ _, HU.out.kept (fun k hk => Below.heap_alloc _ _ _ hk), Nat.le_refl _, by omega, by omega⟩, (Below.refl _ _).alloc (Nat.le_refl _) _⟩

end Go.Proofs.YtkfiahemgdppfaaGreatDoor.Gn

/- A region that draws its order, only reads, and calls functions that add to memory alone: one walk in the order of the text. -/
namespace Go.Proofs.YtkfiahemgdppfaaGreatDoor.Qc
open Go.RowKit

theorem region_class {P : Program} {id : Nat} {Q : Exit → Act → World → Prop} {a : Act} {w : World} {l : List Oper} {X : Type} {W : X → World} (hm : P.follows .mixedOrders = true) (hB : Region.lexB .any l.toArray = true) (hC : ∃ x, w.drew = W x)
    (h : wpQuiet P l.toArray (fun w' => ∃ x, w' = W x) (fun a' => ∀ w', (∃ x, w' = W x) → Q .normal a' w') l a) : (Code.region id l.toArray true).wp P Q a w :=
  wp_region_quiet (C := fun w' => ∃ x, w' = W x) hm hB hC (by simpa using h)
/-- The worlds that hold all that w holds, as the values of one function. -/
theorem klass (w : World) : ∃ (X : Type) (_ : Nonempty X) (W : X → World), (∀ w', Below w.heap.size w w' → ∃ x, w' = W x) ∧ ∀ x, Below w.heap.size w (W x) :=
  ⟨{w' : World // Below w.heap.size w w'}, ⟨⟨w, Below.refl _ _⟩⟩, fun x => x.1, fun w' h => ⟨⟨w', h⟩, rfl⟩, fun x => x.2⟩
theorem from_drew {w : World} : Below w.heap.size w w.drew := (Below.refl _ _).drew
/-- A call from a world of the class that adds to memory alone ends in one of the class. -/
theorem back {w : World} {X : Type} {W : X → World} {x : X} {w' : World} (HI : ∀ w', Below w.heap.size w w' → ∃ x, w' = W x) (HO : ∀ x, Below w.heap.size w (W x)) (h : Below (W x).heap.size (W x) w') : ∃ m, w' = W m :=
  HI _ ((HO x).trans (h.mono (HO x).size))
theorem cell_in {w : World} {X : Type} {W : X → World} (HO : ∀ x, Below w.heap.size w (W x)) {p : Addr} {v : Value} (hp : p.block < w.heap.size) (h : w.cell? p = some v) : ∀ x, (W x).cell? p = some v := fun x => ((HO x).cell hp).trans h
theorem lt_of_cell {w : World} {p : Addr} {v : Value} (h : w.cell? p = some v) : p.block < w.heap.size := World.block_lt_of_cell? w p h
theorem cell_all {w : World} {X : Type} {W : X → World} (HO : ∀ x, Below w.heap.size w (W x)) {p : Addr} {v : Value} (h : w.cell? p = some v) : ∀ x, (W x).cell? p = some v := cell_in HO (lt_of_cell h) h
end Go.Proofs.YtkfiahemgdppfaaGreatDoor.Qc

/- Rows of things of several cells; memory that may be written; the laws' marks of texts. -/
namespace Go.Proofs.YtkfiahemgdppfaaGreatDoor.Rg
open Go.RowKit Go.Proofs.YtkfiahemgdppfaaGreatDoor.Sl Go.Proofs.YtkfiahemgdppfaaGreatDoor.By Go.Proofs.YtkfiahemgdppfaaGreatDoor.Ap

theorem size_new (w : World) (o : Obj) : (w.alloc o).heap.size = w.heap.size + 1 := by simp
theorem blk_cell {w : World} {b : Nat} {cs : Array Value} {t : TypeId} (h : w.heap[b]? = some (.cells cs t (0, 0))) (i : Nat) {x : Value} (hx : cs[i]? = some x) : w.cell? ⟨b, i, none⟩ = some x ∧ w.frozen? ⟨b, i, none⟩ = false := by
  refine ⟨(Joins.cell_of_block h i).trans hx, ?_⟩
  simp [World.frozen?, h]
theorem blk_set {w : World} {b : Nat} {cs : Array Value} {t : TypeId} (h : w.heap[b]? = some (.cells cs t (0, 0))) (i : Nat) (x : Value) : (w.setCell ⟨b, i, none⟩ x).heap[b]? = some (.cells (cs.setIfInBounds i x) t (0, 0)) := Joins.block_setCell (i := i) h x
theorem blk_far {w : World} {b k : Nat} (hk : k ≠ b) (i : Nat) (x : Value) : (w.setCell ⟨b, i, none⟩ x).heap[k]? = w.heap[k]? := Below.heap_setCell w ⟨b, i, none⟩ x k hk
theorem blk_new (w : World) (cs : Array Value) (t : TypeId) : (w.alloc (.cells cs t)).heap[w.heap.size]? = some (.cells cs t (0, 0)) := heap_alloc_new w _
theorem bel_new (w : World) (o : Obj) : Below w.heap.size w (w.alloc o) := (Below.refl _ _).alloc (Nat.le_refl _) _
/-- Things, each of c cells, in a slice. -/
def RowG {α : Type} (c : Nat) (E : World → Nat → Nat → α → Prop) (w : World) (v : Value) (xs : List α) : Prop :=
  ∃ a cap, v = .slice a xs.length cap ∧ (xs = [] ∨ ∃ b off, a = some ⟨b, off, none⟩ ∧ xs.length ≤ cap ∧ b < w.heap.size ∧ ∀ i x, xs[i]? = some x → E w b (off + i * c) x)
/-- What is said of a thing's cells stays where memory is added alone. -/
def Stays {α : Type} (E : World → Nat → Nat → α → Prop) : Prop := ∀ w w' b o x, Below w.heap.size w w' → b < w.heap.size → E w b o x → E w' b o x
theorem RowG.below {α : Type} {c : Nat} {E : World → Nat → Nat → α → Prop} (hE : Stays E) {w w' : World} {v : Value} {xs : List α} (h : RowG c E w v xs) (hb : Below w.heap.size w w') : RowG c E w' v xs := by
  obtain ⟨a, cap, rfl, h⟩ := h
  refine ⟨a, cap, rfl, ?_⟩
  rcases h with h | ⟨b, off, rfl, hc, hlt, h⟩
  · exact .inl h
  · exact .inr ⟨b, off, rfl, hc, Nat.lt_of_lt_of_le hlt hb.size, fun i x hi => hE _ _ _ _ _ hb hlt (h i x hi)⟩
theorem RowG.at {α : Type} {c : Nat} {E : World → Nat → Nat → α → Prop} {w : World} {v : Value} {a : Option Addr} {n cap : Nat} {xs : List α} (h : RowG c E w v xs) (hv : v = .slice a n cap) {i : Nat} {x : α} (hi : xs[i]? = some x) :
    ∃ b off, a = some ⟨b, off, none⟩ ∧ b < w.heap.size ∧ E w b (off + i * c) x := by
  obtain ⟨a', cap', rfl, h⟩ := h
  cases hv
  rcases h with h | ⟨b, off, rfl, hc, hlt, h⟩
  · rw [h] at hi; simp at hi
  · exact ⟨b, off, rfl, hlt, h i x hi⟩
theorem RowG.slice {α : Type} {c : Nat} {E : World → Nat → Nat → α → Prop} {w : World} {v : Value} {xs : List α} (h : RowG c E w v xs) : ∃ a cap, v = .slice a xs.length cap := by
  obtain ⟨a, cap, rfl, _⟩ := h
  exact ⟨a, cap, rfl⟩

theorem ret_i {a b : Int} (h : a = b) : Ending.returned (.int .i64 a) = .returned (.int .i64 b) := by rw [h]
def lft (left s : Int) : Int := if left < s then -1 else left - s
theorem lft_no {left s : Int} (h : left < s) : lft left s = -1 := if_pos h
theorem lft_yes {left s : Int} (h : ¬ left < s) : lft left s = left - s := if_neg h
theorem get_at {α : Type} {xs : List α} {k : Nat} (h : k < xs.length) : ∃ x, xs[k]? = some x := ⟨_, List.getElem?_eq_getElem h⟩
theorem lt_at {α : Type} {xs : List α} {k : Nat} {x : α} (h : xs[k]? = some x) : k < xs.length := (List.getElem?_eq_some_iff.1 h).1
theorem mem_at {α : Type} {xs : List α} {k : Nat} {x : α} (h : xs[k]? = some x) : x ∈ xs := List.mem_of_getElem? h
/-- Three new blocks, one behind the other, in every later world. -/
theorem three {w w1 : World} {o0 o1 o2 : Obj} (b : Below (((w.alloc o0).alloc o1).alloc o2).heap.size (((w.alloc o0).alloc o1).alloc o2) w1) :
    w1.heap[w.heap.size]? = some o0 ∧ w1.heap[w.heap.size + 1]? = some o1 ∧ w1.heap[w.heap.size + 1 + 1]? = some o2 ∧ w.heap.size + 1 + 1 + 1 ≤ w1.heap.size ∧ Below w.heap.size w w1 := by
  have e1 : (w.alloc o0).heap.size = w.heap.size + 1 := size_new _ _
  have e2 : ((w.alloc o0).alloc o1).heap.size = w.heap.size + 1 + 1 := by rw [size_new, e1]
  have e3 : (((w.alloc o0).alloc o1).alloc o2).heap.size = w.heap.size + 1 + 1 + 1 := by rw [size_new, e2]
  have b1 : Below w.heap.size w (((w.alloc o0).alloc o1).alloc o2) := (((Below.refl _ _).alloc (Nat.le_refl _) _).alloc (by rw [e1]; omega) _).alloc (by rw [e2]; omega) _
  have s := b.size
  rw [e3] at b s
  refine ⟨?_, ?_, ?_, s, b1.trans (b.mono (by omega))⟩
  · rw [b.block _ (by omega), Below.heap_alloc _ _ _ (by omega), Below.heap_alloc _ _ _ (by omega)]; exact heap_alloc_new w _
  · rw [b.block _ (by omega), Below.heap_alloc _ _ _ (by omega), ← e1]; exact heap_alloc_new _ _
  · rw [b.block _ (by omega), ← e2]; exact heap_alloc_new _ _
/-- From w to w' only blocks from B on and below C were written, and new ones. -/
structure Mid (B C : Nat) (w w' : World) : Prop where
  os : w'.os = w.os
  tape : w'.tape = w.tape
  output : w'.output = w.output
  size : w.heap.size ≤ w'.heap.size
  block : ∀ k, k < w.heap.size → (k < B ∨ C ≤ k) → w'.heap[k]? = w.heap[k]?
theorem Mid.refl (B C : Nat) (w : World) : Mid B C w w := ⟨rfl, rfl, rfl, Nat.le_refl _, fun _ _ _ => rfl⟩
theorem Mid.trans {B C : Nat} {w w1 w2 : World} (h : Mid B C w w1) (g : Mid B C w1 w2) : Mid B C w w2 :=
  ⟨g.os.trans h.os, g.tape.trans h.tape, g.output.trans h.output, Nat.le_trans h.size g.size, fun k hk hn => (g.block k (Nat.lt_of_lt_of_le hk h.size) hn).trans (h.block k hk hn)⟩
theorem Mid.of_below {B C : Nat} {w w1 : World} (h : Below w.heap.size w w1) : Mid B C w w1 := ⟨h.os, h.tape, h.output, h.size, fun k hk _ => h.block k hk⟩
theorem Mid.set {B C : Nat} {w : World} {g : Nat} (h1 : B ≤ g) (h2 : g < C) (j : Nat) (x : Value) : Mid B C w (w.setCell ⟨g, j, none⟩ x) :=
  ⟨rfl, rfl, rfl, by simp, fun k _ hk => Below.heap_setCell w ⟨g, j, none⟩ x k (fun e => by have e' : k = g := e; omega)⟩
theorem Mid.below {B C : Nat} {w w1 : World} (h : Mid B C w w1) (hB : B ≤ w.heap.size) : Below B w w1 := ⟨h.os, h.tape, h.output, h.size, fun k hk => h.block k (Nat.lt_of_lt_of_le hk hB) (.inl hk)⟩
theorem own_mid {e : TypeId} {B C : Nat} {w w' : World} {v : Value} {zs : List Int} (h : OwnB e w C v zs) (hm : Mid B C w w') : OwnB e w' C v zs := by
  obtain ⟨hl, h⟩ := h
  refine ⟨hl, ?_⟩
  rcases h with h | ⟨g, cap, cur, rfl, h1, hg, h2⟩
  · exact .inl h
  · exact .inr ⟨g, cap, cur, rfl, h1, (hm.block g (Array.getElem?_eq_some_iff.1 hg).1 (.inr h1)).trans hg, h2⟩
/-- A block of n cells that may be written. -/
def Wr (w : World) (g n : Nat) : Prop := ∃ A t, w.heap[g]? = some (.cells A t (0, 0)) ∧ n ≤ A.size
theorem Wr.lt {w : World} {g n : Nat} (h : Wr w g n) : g < w.heap.size := by obtain ⟨A, t, h, _⟩ := h; exact (Array.getElem?_eq_some_iff.1 h).1
theorem Wr.below {w w' : World} {g n : Nat} (h : Wr w g n) (hb : Below w.heap.size w w') : Wr w' g n := by
  obtain ⟨A, t, h, hn⟩ := h
  exact ⟨A, t, (hb.block g (Array.getElem?_eq_some_iff.1 h).1).trans h, hn⟩
theorem Wr.set {w : World} {g n : Nat} (h : Wr w g n) (p j : Nat) (x : Value) : Wr (w.setCell ⟨p, j, none⟩ x) g n := by
  obtain ⟨A, t, h, hn⟩ := h
  by_cases e : p = g
  · subst e
    exact ⟨_, t, blk_set h j x, by rw [Array.size_setIfInBounds]; exact hn⟩
  · exact ⟨A, t, (blk_far (fun h => e h.symm) j x).trans h, hn⟩
theorem Wr.cell {w : World} {g n : Nat} (h : Wr w g n) {j : Nat} (hj : j < n) : (∃ x, w.cell? ⟨g, j, none⟩ = some x) ∧ w.frozen? ⟨g, j, none⟩ = false := by
  obtain ⟨A, t, h, hn⟩ := h
  obtain ⟨c, f⟩ := blk_cell h j (x := A[j]'(by omega)) (Array.getElem?_eq_getElem (by omega))
  exact ⟨⟨_, c⟩, f⟩
/-- What a mark keeps of the blocks that may be written. -/
def Kw (w w' : World) : Prop := ∀ g n, Wr w g n → Wr w' g n
theorem Kw.trans {w w1 w2 : World} (h : Kw w w1) (g : Kw w1 w2) : Kw w w2 := fun a n x => g a n (h a n x)
end Go.Proofs.YtkfiahemgdppfaaGreatDoor.Rg
namespace Go.Proofs.YtkfiahemgdppfaaGreatDoor.Rg
open Go.ChangeShapes Go.WideShapes Go.ChangeAt Go.RowKit Go.Deep
theorem open_rows {α : Type} [Inhabited α] {H : Type} {enc : TypeId × Value → H} {P : Program} {w : World} {base : Nat} {spare : Nat → Bool} {held : Bool} {t e : TypeId} {c : Nat} {E : World → Nat → Nat → α → Prop} {G : α → Prop}
    (hu : P.underlying t = some (.slice e)) (hce : P.cellsOf e = c) (h0 : 0 < c)
    (step : ∀ (n : Nat) (cs : List Value) (b o : Nat) (y : DataW H × List MemPlace), cs.length = c → (∀ j, j < c → w.cell? ⟨b, o + j, none⟩ = cs[j]?) → DataW.trod enc P w base spare held n e cs = some y → ∃ q, E w b o q ∧ G q)
    {fuel : Nat} {cs : List Value} {y : DataW H × List MemPlace} (hf : DataW.trod enc P w base spare held fuel t cs = some y) :
    ∃ v xs, cs = [v] ∧ RowG c E w v xs ∧ xs.length ≤ maxLen ∧ ∀ x ∈ xs, G x := by
  rcases open_slice hu hf with ⟨hcs, _⟩ | ⟨x, len, cap, m, n, D, Pl, hcs, _, hl, hm, hmm, _, hcell⟩
  · exact ⟨_, [], hcs, ⟨none, 0, rfl, .inl rfl⟩, by simp, fun _ hx => by cases hx⟩
  · have hlm : len ≤ m := by rw [hmm]; split <;> omega
    rw [hce] at hcell
    by_cases hz : len = 0
    · subst hz
      exact ⟨_, [], hcs, ⟨some x, cap, rfl, .inl rfl⟩, by simp, fun _ hx => by cases hx⟩
    obtain ⟨b, off, spot⟩ := x
    have hadd : ∀ (s : Nat) (j : Nat), (⟨b, s, none⟩ : Addr).add j = ⟨b, s + j, none⟩ := fun s j => by unfold Addr.add; split <;> simp_all
    have hspot : spot = none := by
      obtain ⟨cs', h1, _⟩ := hcell 0 (by omega)
      obtain ⟨_, hlen, hc⟩ := World.cells?_some h1
      have e0 := hc 0 h0
      rw [List.getElem?_eq_getElem (by omega)] at e0
      simpa [Addr.add] using World.cell?_spot e0
    subst hspot
    have hlt : b < w.heap.size := by
      obtain ⟨cs', h1, _⟩ := hcell 0 (by omega)
      obtain ⟨_, hlen, hc⟩ := World.cells?_some h1
      have e0 := hc 0 h0
      rw [List.getElem?_eq_getElem (by omega), hadd, hadd] at e0
      exact World.block_lt_of_cell? w _ e0
    have each : ∀ i, i < len → ∃ q : α, E w b (off + i * c) q ∧ G q := by
      intro i hi
      obtain ⟨cs', h1, h2⟩ := hcell i (by omega)
      obtain ⟨_, hlen, hc⟩ := World.cells?_some h1
      refine step n cs' b (off + i * c) _ hlen (fun j hj => ?_) h2
      have e0 := hc j hj
      rw [hadd, hadd] at e0
      exact e0
    obtain ⟨q, hq⟩ := choose_lt each
    have hrl : ((List.range len).map q).length = len := by simp
    refine ⟨_, (List.range len).map q, hcs, ⟨some ⟨b, off, none⟩, cap, by rw [hrl], .inr ⟨b, off, rfl, by rw [hrl]; exact hl, hlt, fun i x hi => ?_⟩⟩, by rw [hrl]; omega, fun x hx => ?_⟩
    · have hil : i < len := by have := (List.getElem?_eq_some_iff.1 hi).1; rw [hrl] at this; exact this
      simp [hil] at hi
      subst hi
      exact (hq i hil).1
    · obtain ⟨i, hi, rfl⟩ := List.mem_map.1 hx
      exact (hq i (List.mem_range.1 hi)).2
theorem cell_eq {w : World} {b o : Nat} {cs : List Value} {c : Nat} (h : ∀ j, j < c → w.cell? ⟨b, o + j, none⟩ = cs[j]?) (j : Nat) (hj : j < c) {v : Value} (hv : cs[j]? = some v) : w.cell? ⟨b, o + j, none⟩ = some v := (h j hj).trans hv
end Go.Proofs.YtkfiahemgdppfaaGreatDoor.Rg

/- Readings in a slice: read, measured, copied, compared. -/
namespace Go.Proofs.YtkfiahemgdppfaaGreatDoor.Gr
open Go.RowKit Go.Proofs.YtkfiahemgdppfaaGreatDoor.Sl Go.Proofs.YtkfiahemgdppfaaGreatDoor.Ap Go.Proofs.YtkfiahemgdppfaaGreatDoor.Rg

structure Rd where
  f : Int
  x : Int
  m : ByteArray
instance : Inhabited Rd := ⟨⟨0, 0, ⟨#[]⟩⟩⟩
def E1 (w : World) (b o : Nat) (x : Rd) : Prop := w.cell? ⟨b, o, none⟩ = some (.int .i64 x.f) ∧ w.cell? ⟨b, o + 1, none⟩ = some (.int .i64 x.x) ∧ w.cell? ⟨b, o + 2, none⟩ = some (.string x.m)
/-- The slice v holds the things xs. -/
def Row (w : World) (v : Value) (xs : List Rd) : Prop := RowG 3 E1 w v xs
def oneV (x : Rd) : Value := .agg #[.int .i64 x.f, .int .i64 x.x, .string x.m]
theorem stays1 : Stays E1 := fun _ _ b _ _ hb hlt ⟨h0, h1, h2⟩ => ⟨(hb.cell (p := ⟨b, _, none⟩) hlt).trans h0, (hb.cell (p := ⟨b, _, none⟩) hlt).trans h1, (hb.cell (p := ⟨b, _, none⟩) hlt).trans h2⟩
theorem Row.below {w w' : World} {v : Value} {xs : List Rd} (h : Row w v xs) (hb : Below w.heap.size w w') : Row w' v xs := RowG.below stays1 h hb
/-- Its texts are no longer than n. -/
def Tz (n : Nat) (x : Rd) : Prop := x.m.size ≤ n
end Go.Proofs.YtkfiahemgdppfaaGreatDoor.Gr
namespace Go.Proofs.YtkfiahemgdppfaaGreatDoor.Op
open Go.ChangeShapes Go.WideShapes Go.ChangeAt Go.RowKit Go.Deep Go.Proofs.YtkfiahemgdppfaaGreatDoor.Rg Go.Proofs.YtkfiahemgdppfaaGreatDoor.Gr
end Go.Proofs.YtkfiahemgdppfaaGreatDoor.Op

/- Batches: what is right, of the program and of the specification. -/
namespace Go.Proofs.YtkfiahemgdppfaaGreatDoor.Bo
open Go.RowKit Go.Proofs.YtkfiahemgdppfaaGreatDoor.Rg Go.Proofs.YtkfiahemgdppfaaGreatDoor.Gr Go.Proofs.YtkfiahemgdppfaaGreatDoor.Rq

/-- A reading is right, of a node from least on; readings rise. -/
def r1 (least : Int) (x : Rd) : Bool := inB x.f least 6 && (inB x.x 0 1000000000 && ((x.m.size : Int) == 8))
def rOK : Int → List Rd → Bool
  | _, [] => true
  | least, x :: xs => r1 least x && rOK (x.f + 1) xs
/-- A request of noughts. -/
def zB (c st k l : Int) (n : ByteArray) : Bool := (c == 0) && ((st == 0) && ((k == 0) && ((l == 0) && (n.toList == (⟨#[]⟩ : ByteArray).toList))))
/-- A batch is right. -/
def bOK (nl : Bool) (c st k l : Int) (n : ByteArray) (rs : List Rd) : Bool := if nl then zB c st k l n && ((rs.length : Int) == 0) else reqB c st k l n && rOK 0 rs
def batV (nl : Bool) (c st k l : Int) (n : ByteArray) (vr : Value) : Value := .agg #[.bool nl, .int .i64 c, .int .i64 st, .int .i64 k, .int .i64 l, .string n, vr]
theorem drop_at {rs : List Rd} {k : Nat} {x : Rd} (h : rs[k]? = some x) : rs.drop k = x :: rs.drop (k + 1) := by
  obtain ⟨hk, rfl⟩ := List.getElem?_eq_some_iff.1 h
  exact List.drop_eq_getElem_cons hk
theorem rOK_step {rs : List Rd} {k : Nat} {x : Rd} {l : Int} (h : rs[k]? = some x) : rOK l (rs.drop k) = (r1 l x && rOK (x.f + 1) (rs.drop (k + 1))) := by rw [drop_at h]; rfl
theorem rOK_end {rs : List Rd} {l : Int} : rOK l (rs.drop rs.length) = true := by rw [List.drop_length]; rfl
theorem rOK_len : ∀ (rs : List Rd) (l : Int), 0 ≤ l → rOK l rs = true → l + rs.length ≤ 7 ∨ rs = []
  | [], _, _, _ => .inr rfl
  | x :: xs, l, hl, h => by
    unfold rOK at h
    rw [Bool.and_eq_true] at h
    obtain ⟨h1, h2⟩ := h
    have hx : l ≤ x.f ∧ x.f ≤ 6 := by unfold r1 inB at h1; simp only [Bool.and_eq_true, decide_eq_true_eq] at h1; exact h1.1
    rcases rOK_len xs (x.f + 1) (by omega) h2 with h3 | h3
    · left; simp only [List.length_cons]; omega
    · left; rw [h3]; simp; omega
theorem rOK_seven {rs : List Rd} (h : rOK 0 rs = true) : rs.length ≤ 7 := by
  rcases rOK_len rs 0 (by omega) h with h | h
  · omega
  · rw [h]; simp
theorem rOK_small : ∀ (rs : List Rd) (l : Int), rOK l rs = true → ∀ x ∈ rs, x.m.size = 8 ∧ x.f ≤ 6 ∧ 0 ≤ x.x ∧ x.x ≤ 1000000000
  | [], _, _, _, hx => by cases hx
  | y :: ys, l, h, x, hx => by
    unfold rOK at h
    rw [Bool.and_eq_true] at h
    rcases List.mem_cons.1 hx with rfl | hx
    · have h1 := h.1
      unfold r1 inB at h1
      simp only [Bool.and_eq_true, decide_eq_true_eq, beq_iff_eq] at h1
      omega
    · exact rOK_small ys _ h.2 x hx
theorem ret_b {a b : Bool} (h : a = b) : Ending.returned (.bool a) = .returned (.bool b) := by rw [h]
theorem with_any (x a b : Int) (w : World) : Calls Tryz.prog 19 #[.int .i64 x, .int .i64 a, .int .i64 b] w fun e w' => e = .returned (.bool (inB x a b)) ∧ w = w' := (within_any x a b w).mono fun _ _ ⟨h1, h2⟩ => ⟨h1, h2.symm⟩
theorem in_any (x a b : Int) (w : World) : Calls Tryz.prog 23 #[.int .i64 x, .int .i64 a, .int .i64 b] w fun e w' => e = .returned (.bool (inB x a b)) ∧ w = w' := (l01In_any x a b w).mono fun _ _ ⟨h1, h2⟩ => ⟨h1, h2.symm⟩
theorem one_kept {w w1 : World} {x : Rd} (b : Below (w.alloc (.cells #[.int .i64 x.f, .int .i64 x.x, .string x.m] 157)).heap.size (w.alloc (.cells #[.int .i64 x.f, .int .i64 x.x, .string x.m] 157)) w1) : E1 w1 w.heap.size 0 x := by
  have h := (b.block w.heap.size (by simp)).trans (heap_alloc_new w _)
  exact ⟨(blk_cell h 0 rfl).1, (blk_cell h 1 rfl).1, (blk_cell h 2 rfl).1⟩

set_option maxRecDepth 100000 in
set_option maxHeartbeats 800000 in
theorem readingsOK_any (v : Value) (rs : List Rd) (w : World) (h : Row w v rs) (hl : rs.length ≤ 1048576) :
    Calls Tryz.prog 146 #[v] w fun e w' => e = .returned (.bool (rOK 0 rs)) ∧ Below w.heap.size w w' := by
  have HR : Hid (Row w v rs) := h
  obtain ⟨a, cap, rfl⟩ := RowG.slice h
  clear h
  go_enter Tryz.func146, Tryz.ntmps146
  go_wp2_with fail
  go_loopw [3, 8] (fun l i wr => ∃ (k : Nat) (z : Int), k ≤ rs.length ∧ i = .int .i64 k ∧ l = .int .i64 z ∧ Hid (rOK 0 rs = rOK z (rs.drop k) ∧ 0 ≤ z ∧ Below w.heap.size w wr)) (fun _ i _ => rs.length - (intOf i).toNat)
  case atStart => exact ⟨0, 0, by omega, rfl, rfl, ⟨by rw [List.drop_zero], Int.le_refl _, Below.refl _ _⟩⟩
  case round =>
    obtain ⟨k, z, hk, rfl, rfl, HZ⟩ := hrel
    by_cases hlt : k < rs.length
    · obtain ⟨x, hx⟩ := Rg.get_at hlt
      obtain ⟨b, off, rfl, hbl, c0, c1, c2⟩ := RowG.at (HR.out.below HZ.out.2.2) rfl hx
      have HX : Hid (rOK 0 rs = (r1 z x && rOK (x.f + 1) (rs.drop (k + 1)))) := HZ.out.1.trans (rOK_step hx)
      have HB : Hid (Below w.heap.size w (wr.alloc (.cells #[.int .i64 x.f, .int .i64 x.x, .string x.m] 157))) := HZ.out.2.2.alloc HZ.out.2.2.size _
      have HK0 : Hid (0 ≤ z) := HZ.out.2.1
      clear hx HZ
      cases g1 : inB x.f z 6 with
      | false =>
        have HE : Hid (rOK 0 rs = false) := by show _ = _; rw [HX.out]; unfold r1; rw [g1]; rfl
        go_wp2_with (go_at_call 19; refine (with_any _ _ _ _).mono ?_; rintro e w1 ⟨rfl, rfl⟩; rw [g1])
        go_ret
        exact ⟨ret_b HE.out.symm, HB.out⟩
      | true =>
        have hf6 : x.f ≤ 6 := by unfold inB at g1; simp only [decide_eq_true_eq] at g1; exact g1.2
        cases g2 : inB x.x 0 1000000000 with
        | false =>
          have HE : Hid (rOK 0 rs = false) := by show _ = _; rw [HX.out]; unfold r1; rw [g1, g2]; rfl
          go_wp2_with (go_at_call 19; refine (with_any _ _ _ _).mono ?_; rintro e w1 ⟨rfl, rfl⟩; first | rw [g1] | rw [g2])
          go_ret
          exact ⟨ret_b HE.out.symm, HB.out⟩
        | true =>
          by_cases g3 : x.m.size = 8
          · have g4 : ((x.m.size : Int) != 8) = false := by rw [g3]; rfl
            have g5 : ((x.m.size : Int) == 8) = true := by rw [g3]; rfl
            have HE : Hid (rOK 0 rs = rOK (x.f + 1) (rs.drop (k + 1))) := by show _ = _; rw [HX.out]; unfold r1; rw [g1, g2, g5]; rfl
            have hwr : z ≤ x.f := by unfold inB at g1; simp only [decide_eq_true_eq] at g1; exact g1.1
            have hfl : 0 ≤ x.f := by have := HK0.out; omega
            clear g3
            go_wp2_with (go_at_call 19; refine (with_any _ _ _ _).mono ?_; rintro e w1 ⟨rfl, rfl⟩; first | rw [g1] | rw [g2])
            exact ⟨⟨k + 1, x.f + 1, by omega, by go_num, by go_num, ⟨HE.out, by omega, HB.out⟩⟩, by simp [intOf]; omega⟩
          · have g4 : ((x.m.size : Int) != 8) = true := by simp; omega
            have g5 : ((x.m.size : Int) == 8) = false := by simp; omega
            have HE : Hid (rOK 0 rs = false) := by show _ = _; rw [HX.out]; unfold r1; rw [g1, g2, g5]; rfl
            clear g3
            go_wp2_with (go_at_call 19; refine (with_any _ _ _ _).mono ?_; rintro e w1 ⟨rfl, rfl⟩; first | rw [g1] | rw [g2])
            go_ret
            exact ⟨ret_b HE.out.symm, HB.out⟩
    · obtain rfl : k = rs.length := by omega
      have HE : Hid (rOK 0 rs = true) := HZ.out.1.trans rOK_end
      go_wp2_with fail
      go_ret
      exact ⟨ret_b HE.out.symm, HZ.out.2.2⟩
end Go.Proofs.YtkfiahemgdppfaaGreatDoor.Bo
