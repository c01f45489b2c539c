/- Texts put together: TakeReq, Txs, Gq. -/
import Derived.Test.YtakfniknkejgpaaDoorMp31
import Derived.Test.YtakfniknkejgpaaDoorMp2
import Derived.Test.YtakfniknkejgpaaDoorMp30
import Derived.Laws.MakeOwn
import Derived.Laws.NewBlocks
import Derived.Deep.QuietTactic
import Derived.BigQuiet
import Derived.Test.YtakfniknkejgpaaDoorMp13
import Derived.BigRegion
/- A request is taken off the wire. -/
namespace Go.Proofs.YtakfniknkejgpaaDoor.Rr
open Go.RowKit Go.Proofs.YtakfniknkejgpaaDoor.Sl Go.Proofs.YtakfniknkejgpaaDoor.By Go.Proofs.YtakfniknkejgpaaDoor.Ap Go.Proofs.YtakfniknkejgpaaDoor.Rq

def zreq : Array Value := #[.int .i64 0, .int .i64 0, .int .i64 0, .int .i64 0, .string ⟨#[]⟩]

end Go.Proofs.YtakfniknkejgpaaDoor.Rr

/- Texts in a slice: read, copied, compared. -/
namespace Go.Proofs.YtakfniknkejgpaaDoor.Ty
open Go.RowKit Go.Proofs.YtakfniknkejgpaaDoor.Sl Go.Proofs.YtakfniknkejgpaaDoor.By Go.Proofs.YtakfniknkejgpaaDoor.Ap Go.Proofs.YtakfniknkejgpaaDoor.Rq Go.Proofs.YtakfniknkejgpaaDoor.Rr

def tnth (ts : List ByteArray) (i : Nat) : ByteArray := ts.getD i ⟨#[]⟩
def RowT (w : World) (v : Value) (ts : List ByteArray) : Prop :=
 ∃ a cap, v = .slice a ts.length cap ∧ (ts = [] ∨ ∃ b off, a = some ⟨b, off, none⟩ ∧ ts.length ≤ cap ∧ b < w.heap.size ∧ ∀ i, i < ts.length → w.cell? ⟨b, off + i, none⟩ = some (.string (tnth ts i)))
theorem RowT.below {w w' : World} {v : Value} {ts : List ByteArray} (h : RowT w v ts) (hb : Below w.heap.size w w') : RowT w' v ts := by
 obtain ⟨a, cap, rfl, h⟩ := h
 refine ⟨a, cap, rfl, ?_⟩
 rcases h with h | ⟨b, off, rfl, hc, hlt, h⟩
 ·exact .inl h
 ·exact .inr ⟨b, off, rfl, hc, Nat.lt_of_lt_of_le hlt hb.size, fun i hi => (hb.cell (p := ⟨b, off + i, none⟩) hlt).trans (h i hi)⟩
theorem info9 : (Tryd.prog.info? 9).map (fun i => (i.zero, i.size, i.bytes)) = some (some (.string ⟨#[]⟩), 1, 16) := by kernel_rfl
def OwnT (w : World) (B : Nat) (v : Value) (ts : List ByteArray) : Prop :=
 ∃ g A, v = .slice (some ⟨g, 0, none⟩) ts.length ts.length ∧ B ≤ g ∧ w.heap[g]? = some (.cells A 9 (0, 0)) ∧ A.size = ts.length ∧ ∀ j, j < ts.length → A[j]? = some (.string (tnth ts j))
theorem OwnT.row {w : World} {B : Nat} {v : Value} {ts : List ByteArray} (h : OwnT w B v ts) : RowT w v ts := by
 obtain ⟨g, A, rfl, hB, hg, hs, hA⟩ := h
 refine ⟨_, _, rfl, .inr ⟨g, 0, rfl, Nat.le_refl _, (Array.getElem?_eq_some_iff.1 hg).1, fun i hi => ?_⟩⟩
 rw [Nat.zero_add, Joins.cell_of_block hg i]
 exact hA i hi
theorem OwnT.below {w w' : World} {B : Nat} {v : Value} {ts : List ByteArray} (h : OwnT w B v ts) (hb : Below w.heap.size w w') : OwnT w' B v ts := by
 obtain ⟨g, A, rfl, hB, hg, hs, hA⟩ := h
 exact ⟨g, A, rfl, hB, (hb.block g (Array.getElem?_eq_some_iff.1 hg).1).trans hg, hs, hA⟩

end Go.Proofs.YtakfniknkejgpaaDoor.Ty

/- The specification's source of choices. -/
namespace Go.Proofs.YtakfniknkejgpaaDoor.Gn
open Go.RowKit Go.Proofs.YtakfniknkejgpaaDoor.Sl Go.Proofs.YtakfniknkejgpaaDoor.By Go.Proofs.YtakfniknkejgpaaDoor.Ap Go.Proofs.YtakfniknkejgpaaDoor.Rq Go.Proofs.YtakfniknkejgpaaDoor.Rr Go.Proofs.YtakfniknkejgpaaDoor.Ty

def Src (B : Nat) (w : World) (p : Nat) (xs : List Int) (K : Nat) : Prop :=
 ∃ (v : Value) (at_ : Nat) (sd : Int), w.heap[p]? = some (.cells #[v, .int .i64 at_, .int .i64 sd] 81 (0, 0)) ∧ RowU B w v xs ∧ at_ ≤ K ∧ 0 ≤ sd ∧ sd < 2147483648
theorem Src.lt {B p K : Nat} {w : World} {xs : List Int} (h : Src B w p xs K) : p < w.heap.size := by
 obtain ⟨v, a, s, h1, _⟩ := h
 exact (Array.getElem?_eq_some_iff.1 h1).1
theorem Src.kept {B p K : Nat} {w w' : World} {xs : List Int} (h : Src B w p xs K) (hp : w'.heap[p]? = w.heap[p]?) (hb : ∀ k, k < B → w'.heap[k]? = w.heap[k]?) : Src B w' p xs K := by
 obtain ⟨v, a, s, h1, h2, h3⟩ := h
 exact ⟨v, a, s, hp.trans h1, h2.kept hb, h3⟩

theorem src_end {B p K at_ : Nat} {w : World} {xs : List Int} {v : Value} {sd : Int} (h : w.heap[p]? = some (.cells #[v, .int .i64 ((at_ : Int) + 1), .int .i64 sd] 81 (0, 0))) (hu : RowU B w v xs) (ha : at_ ≤ K) (h0 : 0 ≤ sd) (h1 : sd < 2147483648) : Src B w p xs (K + 1) :=
 ⟨v, at_ + 1, sd, by rw [show (((at_ + 1 : Nat)) : Int) = (at_ : Int) + 1 by omega]; exact h, hu, by omega, h0, h1⟩
set_option maxRecDepth 100000 in
set_option maxHeartbeats 1600000 in
theorem byte_any (p B K : Nat) (xs : List Int) (w : World) (h : Src B w p xs K) (hB : B ≤ p) (hK : K ≤ 1000000000) (_hx : xs.length ≤ 1048600) :
 Calls Tryd.prog 98 #[.pointer (some ⟨p, 0, none⟩)] w fun e w' => ∃ r : Int, e = .returned (.int .i64 r) ∧ 0 ≤ r ∧ r ≤ 255 ∧ Src B w' p xs (K + 1) ∧ w.grownBy w' (some p) := by
 have hp := h.lt
 obtain ⟨v, at_, sd, h1, hu, hat, hs0, hs1⟩ := h
 obtain ⟨c0, f0⟩ := blk_cell h1 0 (x := v) rfl
 obtain ⟨c1, f1⟩ := blk_cell h1 1 (x := .int .i64 at_) rfl
 obtain ⟨c2, f2⟩ := blk_cell h1 2 (x := .int .i64 sd) rfl
 have HU : Hid (RowU B w v xs) := hu
 obtain ⟨a, cap, rfl, hcap, hc, hr⟩ := hu
 have H1 : Hid (w.heap[p]? = some (.cells #[.slice a xs.length cap, .int .i64 at_, .int .i64 sd] 81 (0, 0))) := h1
 have HR : Hid (∀ x ∈ xs, 0 ≤ x ∧ x ≤ 255) := hr
 clear h1 hr
 by_cases hlt : at_ < xs.length
 ·have hlt' : (at_ : Int) + 1 ≤ (xs.length : Int) := by omega
  rcases hc with hc | ⟨b, off, rfl, hb, hcell⟩
  ·exact absurd hlt (by rw [hc]; simp)
  have hc1 := hcell at_ hlt
  have hne : b ≠ p := by omega
  have hx1 := range_at HR.out at_
  clear hcell
  go_enter Tryd.func98, Tryd.ntmps98
  go_wp2_with fail
  go_quiet (fail)
  go_wp2_with fail
  have H2 : ((w.setCell ⟨p, 1, none⟩ (.int .i64 ((at_ : Int) + 1))).drewN nq).heap[p]? = some (.cells #[.slice (some ⟨b, off, none⟩) xs.length cap, .int .i64 ((at_ : Int) + 1), .int .i64 sd] 81 (0, 0)) := blk_set H1.out 1 (.int .i64 ((at_ : Int) + 1))
  have G2 : w.grownBy ((w.setCell ⟨p, 1, none⟩ (.int .i64 ((at_ : Int) + 1))).drewN nq) (some p) := by
   have g := grown_set (w := w) (p := p) 1 (.int .i64 ((at_ : Int) + 1))
   exact ⟨g.os, g.tape, g.output, g.size, g.block⟩
  have X2 : ((w.setCell ⟨p, 1, none⟩ (.int .i64 ((at_ : Int) + 1))).drewN nq).cell? ⟨b, off + at_, none⟩ = some (.int .u8 (nth xs at_)) := (World.cell?_of_block (a := ⟨b, off + at_, none⟩) (below_kept G2 hB hp b hb)).trans hc1
  generalize (w.setCell ⟨p, 1, none⟩ (.int .i64 ((at_ : Int) + 1))).drewN nq = w2 at H2 G2 X2 ⊢
  clear c0 c1 c2 f0 f1 f2 hc1
  obtain ⟨c0, f0⟩ := blk_cell H2 0 (x := .slice (some ⟨b, off, none⟩) xs.length cap) rfl
  obtain ⟨c1, f1⟩ := blk_cell H2 1 (x := .int .i64 ((at_ : Int) + 1)) rfl
  obtain ⟨c2, f2⟩ := blk_cell H2 2 (x := .int .i64 sd) rfl
  have HH2 : Hid (w2.heap[p]? = some (.cells #[.slice (some ⟨b, off, none⟩) xs.length cap, .int .i64 ((at_ : Int) + 1), .int .i64 sd] 81 (0, 0))) := H2
  clear H2
  refine Qt.region_quiet_tail 23 (by kernel_rfl) (by kernel_rfl) ?_
  simp only [List.take_succ_cons, List.take_zero, List.drop_succ_cons, List.drop_zero]
  repeat (go_big_quiet_step (fail))
  refine wpQuiet_nil ?_
  go_wp2_with fail
  go_quiet (fail)
  go_wp2_with fail
  go_ret
  refine ⟨nth xs at_, rfl, hx1.1, hx1.2, src_end (at_ := at_) (sd := (sd * 31 + nth xs at_ + 7) % 2147483648) ?_ (HU.out.kept ?_) hat (by omega) (by omega), ?_⟩
  ·exact blk_set HH2.out 2 (.int .i64 ((sd * 31 + nth xs at_ + 7) % 2147483648))
  ·exact fun k hk => (blk_far (w := w2) (b := p) (by omega) 2 (.int .i64 ((sd * 31 + nth xs at_ + 7) % 2147483648))).trans (below_kept G2 hB hp k hk)
  ·have g := grown_trans G2 (grown_set (w := w2) (p := p) 2 (.int .i64 ((sd * 31 + nth xs at_ + 7) % 2147483648)))
   exact ⟨g.os, g.tape, g.output, g.size, g.block⟩
 ·have hlt' : ¬ (at_ : Int) + 1 ≤ (xs.length : Int) := by omega
  clear hc
  by_cases h3 : 3000 < at_ + 1
  ·have h3' : (3000 : Int) < (at_ : Int) + 1 := by omega
   go_enter Tryd.func98, Tryd.ntmps98
   go_wp2_with fail
   go_quiet (fail)
   go_wp2_with fail
   go_ret
   refine ⟨0, rfl, by decide, by decide, src_end (at_ := at_) (sd := sd) ?_ (HU.out.kept ?_) hat hs0 hs1, ?_⟩
   ·exact blk_set H1.out 1 (.int .i64 ((at_ : Int) + 1))
   ·exact fun k hk => blk_far (w := w) (b := p) (by omega) 1 (.int .i64 ((at_ : Int) + 1))
   ·have g := grown_set (w := w) (p := p) 1 (.int .i64 ((at_ : Int) + 1))
    exact ⟨g.os, g.tape, g.output, g.size, g.block⟩
  ·have h3' : ¬ (3000 : Int) < (at_ : Int) + 1 := by omega
   go_enter Tryd.func98, Tryd.ntmps98
   go_wp2_with fail
   go_quiet (fail)
   go_wp2_with fail
   go_ret
   refine ⟨(sd * 1103515245 + 12345) % 2147483648 / 65536 % 256, rfl, by omega, by omega, src_end (at_ := at_) (sd := (sd * 1103515245 + 12345) % 2147483648) ?_ (HU.out.kept ?_) hat (by omega) (by omega), ?_⟩
   ·exact blk_set (blk_set H1.out 1 (.int .i64 ((at_ : Int) + 1))) 2 (.int .i64 ((sd * 1103515245 + 12345) % 2147483648))
   ·exact fun k hk => (blk_far (w := w.setCell ⟨p, 1, none⟩ (.int .i64 ((at_ : Int) + 1))) (b := p) (by omega) 2 (.int .i64 ((sd * 1103515245 + 12345) % 2147483648))).trans (blk_far (w := w) (b := p) (by omega) 1 (.int .i64 ((at_ : Int) + 1)))
   ·have g := grown_trans (grown_set (w := w) (p := p) 1 (.int .i64 ((at_ : Int) + 1))) (grown_set (w := w.setCell ⟨p, 1, none⟩ (.int .i64 ((at_ : Int) + 1))) (p := p) 2 (.int .i64 ((sd * 1103515245 + 12345) % 2147483648)))
    exact ⟨g.os, g.tape, g.output, g.size, g.block⟩

set_option maxHeartbeats 800000 in
theorem next_any (n p B K : Nat) (xs : List Int) (w : World) (h : Src B w p xs K) (hB : B ≤ p) (hK : K ≤ 1000000000) (hx : xs.length ≤ 1048600) (hn : 0 < n) (hn2 : n ≤ 256) :
 Calls Tryd.prog 75 #[.pointer (some ⟨p, 0, none⟩), .int .i64 n] w fun e w' => ∃ r : Nat, e = .returned (.int .i64 r) ∧ r < n ∧ Src B w' p xs (K + 1) ∧ w.grownBy w' (some p) := by
 by_cases h1 : n ≤ 1
 ·have h1' : (n : Int) ≤ 1 := by omega
  obtain ⟨v, a, s, q1, q2, q3, q4⟩ := h
  have HS : Hid (Src B w p xs (K + 1)) := ⟨v, a, s, q1, q2, by omega, q4⟩
  clear q1 q2 q3 q4
  go_enter Tryd.func75, Tryd.ntmps75
  go_wp2_with fail
  go_ret
  exact ⟨0, rfl, hn, HS.out, grown_refl _ _⟩
 ·have h1' : ¬ (n : Int) ≤ 1 := by omega
  have h2' : (n : Int) ≤ 256 := by omega
  go_enter Tryd.func75, Tryd.ntmps75
  go_wp2_with fail
  refine (byte_any p B K xs _ h hB hK hx).mono ?_
  rintro e w1 ⟨r, rfl, r0, r1, s1, g1⟩
  obtain ⟨m, rfl⟩ : ∃ m : Nat, r = m := ⟨r.toNat, by omega⟩
  have hnz : ¬ (n : Int) = 0 := by omega
  have HSS : Hid (Src B w1 p xs (K + 1)) := s1
  clear s1 h
  go_wp2_with fail
  go_ret
  exact ⟨m % n, rfl, Nat.mod_lt _ hn, HSS.out, g1⟩
theorem Src.alloc {B p K : Nat} {w : World} {xs : List Int} (h : Src B w p xs K) (hB : B ≤ p) (o : Obj) : Src B (w.alloc o) p xs K :=
 h.kept (Below.heap_alloc w o p h.lt) (fun k hk => Below.heap_alloc w o k (by have := h.lt; omega))
set_option maxHeartbeats 800000 in
theorem pick_any (b n p B K : Nat) (A : Array Value) (ts : List ByteArray) (xs : List Int) (w : World) (h : Src B w p xs K) (hB : B ≤ p) (hK : K ≤ 1000000000) (hx : xs.length ≤ 1048600) (hn : 0 < n) (hn2 : n ≤ 256) (hb : w.heap[b]? = some (.cells A 9 (0, 0))) (hbp : b ≠ p) (hA : ∀ j, j < n → A[j]? = some (.string (tnth ts j))) :
 Calls Tryd.prog 99 #[.pointer (some ⟨p, 0, none⟩), .slice (some ⟨b, 0, none⟩) n n] w fun e w' => ∃ r : Nat, e = .returned (.string (tnth ts r)) ∧ r < n ∧ Src B w' p xs (K + 1) ∧ w.grownBy w' (some p) := by
 have h0 : ¬ (n : Int) = 0 := by omega
 have h0' : ((n : Int) == 0) = false := by simp; omega
 have HB : Hid (w.heap[b]? = some (.cells A 9 (0, 0))) := hb
 have HA : Hid (∀ j, j < n → A[j]? = some (.string (tnth ts j))) := hA
 clear hb hA
 go_enter Tryd.func99, Tryd.ntmps99
 go_wp2_with fail
 refine (next_any n p B K xs _ h hB hK hx hn hn2).mono ?_
 rintro e w1 ⟨r, rfl, hr, s1, g1⟩
 have HS : Hid (Src B w1 p xs (K + 1)) := s1
 have c1 := (blk_cell (blk_kept HB.out g1 hbp) r (HA.out r hr)).1
 have hr' : (r : Int) < (n : Int) := by omega
 clear s1 h
 go_wp2_with fail
 go_ret
 exact ⟨r, rfl, hr, HS.out, g1⟩

set_option maxHeartbeats 400000 in
theorem source_any (v : Value) (xs : List Int) (w : World) (h : RowB w v xs) (hx : xs.length ≤ 1048600) :
 Calls Tryd.prog 23 #[v] w fun e w' => e = .returned (.pointer (some ⟨w.heap.size, 0, none⟩)) ∧ Src w.heap.size w' w.heap.size xs 0 ∧ Below w.heap.size w w' := by
 have HU : Hid (RowU w.heap.size w v xs) := RowU.of h
 obtain ⟨a, cap, rfl, _, _⟩ := h
 go_enter Tryd.func23, Tryd.ntmps23
 go_wp2_with fail
 go_ret
 refine ⟨rfl, ⟨_, 0, (xs.length : Int) % 1000, blk_new _ _ _, HU.out.kept (fun k hk => Below.heap_alloc _ _ _ hk), Nat.le_refl _, by omega, by omega⟩, (Below.refl _ _).alloc (Nat.le_refl _) _⟩

end Go.Proofs.YtakfniknkejgpaaDoor.Gn
