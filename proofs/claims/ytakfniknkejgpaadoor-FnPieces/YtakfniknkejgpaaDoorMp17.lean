/- Texts put together: Mq, Sv, Mkb. -/
import Derived.Test.YtakfniknkejgpaaDoorMp10
import Derived.Deep.RegionWith
import Derived.Test.YtakfniknkejgpaaDoorMp3
/- The laws' helpers on texts: sized, copied, compared, marked. -/
namespace Go.Proofs.YtakfniknkejgpaaDoor.Mk
open Go.RowKit Go.Proofs.YtakfniknkejgpaaDoor.Sl Go.Proofs.YtakfniknkejgpaaDoor.By Go.Proofs.YtakfniknkejgpaaDoor.Ap Go.Proofs.YtakfniknkejgpaaDoor.Tx

def RowG (w : World) (g n cap : Nat) (ts : List ByteArray) : Prop :=
 ∃ A : Array Value, w.heap[g]? = some (.cells A 9 (0, 0)) ∧ n ≤ A.size ∧ n ≤ cap ∧ ts.length = n ∧ ∀ j, j < n → A[j]? = some (.string (tnth ts j))
theorem RowG.row {w : World} {g n cap : Nat} {ts : List ByteArray} (h : RowG w g n cap ts) : RowT w (.slice (some ⟨g, 0, none⟩) n cap) ts := by
 obtain ⟨A, hg, hs, hc, rfl, hA⟩ := h
 refine ⟨_, _, rfl, .inr ⟨g, 0, rfl, hc, (Array.getElem?_eq_some_iff.1 hg).1, fun i hi => ?_⟩⟩
 rw [Nat.zero_add, Joins.cell_of_block hg i]
 exact hA i hi
theorem own_open {w : World} {B : Nat} {v : Value} {ts : List ByteArray} (h : OwnS w B v ts) : (v = .slice none 0 0 ∧ ts = []) ∨ ∃ g cap, v = .slice (some ⟨g, 0, none⟩) ts.length cap ∧ B ≤ g ∧ RowG w g ts.length cap ts := by
 have hrow := h.row
 obtain ⟨hl, h⟩ := h
 rcases h with ⟨rfl, h0⟩ | ⟨g, cap, cur, rfl, hB, hg, hc, _, hs, htk⟩
 ·exact .inl ⟨rfl, List.length_eq_zero_iff.1 h0⟩
 ·refine .inr ⟨g, cap, rfl, hB, cur, hg, by omega, hc, rfl, fun i hi => ?_⟩
  have h1 : (cur.toList.take (ts.length * 1))[i]? = some (.string (tnth ts i)) := by
   rw [htk, List.getElem?_map, List.getElem?_eq_getElem hi]
   simp [tnth, List.getD_eq_getElem?_getD, List.getElem?_eq_getElem hi]
  rw [List.getElem?_take] at h1
  split at h1
  ·simpa using h1
  ·cases h1
end Go.Proofs.YtakfniknkejgpaaDoor.Mk

/- The laws' helpers on texts: sized, copied; marks on a copy. -/
namespace Go.Proofs.YtakfniknkejgpaaDoor.Sv
open Go.RowKit Go.Proofs.YtakfniknkejgpaaDoor.Sl Go.Proofs.YtakfniknkejgpaaDoor.By Go.Proofs.YtakfniknkejgpaaDoor.Ap Go.Proofs.YtakfniknkejgpaaDoor.Tx Go.Proofs.YtakfniknkejgpaaDoor.Mk

theorem retI {a b : Int} (h : a = b) : Ending.returned (.int .i64 a) = .returned (.int .i64 b) := by rw [h]
theorem andThen {B : Nat} {W w1 w2 : World} (h : Below B W w1) (hB : B ≤ W.heap.size) (h2 : Below w1.heap.size w1 w2) : Below B W w2 := h.trans (h2.mono (Nat.le_trans hB h.size))

def OwnT (w : World) (B : Nat) (v : Value) (ts : List ByteArray) : Prop :=
 ∃ g A, v = .slice (some ⟨g, 0, none⟩) ts.length ts.length ∧ B ≤ g ∧ w.heap[g]? = some (.cells A 9 (0, 0)) ∧ A.size = ts.length ∧ ∀ j, j < ts.length → A[j]? = some (.string (tnth ts j))
theorem OwnT.row {w : World} {B : Nat} {v : Value} {ts : List ByteArray} (h : OwnT w B v ts) : RowT w v ts := by
 obtain ⟨g, A, rfl, hB, hg, hs, hA⟩ := h
 refine ⟨_, _, rfl, .inr ⟨g, 0, rfl, Nat.le_refl _, (Array.getElem?_eq_some_iff.1 hg).1, fun i hi => ?_⟩⟩
 rw [Nat.zero_add, Joins.cell_of_block hg i]
 exact hA i hi
theorem OwnT.below {w w' : World} {B : Nat} {v : Value} {ts : List ByteArray} (h : OwnT w B v ts) (hb : Below w.heap.size w w') : OwnT w' B v ts := by
 obtain ⟨g, A, rfl, hB, hg, hs, hA⟩ := h
 exact ⟨g, A, rfl, hB, (hb.block g (Array.getElem?_eq_some_iff.1 hg).1).trans hg, hs, hA⟩

theorem OwnT.lt {w : World} {B : Nat} {v : Value} {ts : List ByteArray} (h : OwnT w B v ts) : ∀ g, v.ownBlock = some g → B ≤ g ∧ g < w.heap.size := by
 obtain ⟨g, A, rfl, hB, hg, _⟩ := h
 intro g' hg'
 simp [Value.ownBlock] at hg'
 subst hg'
 exact ⟨hB, (Array.getElem?_eq_some_iff.1 hg).1⟩
end Go.Proofs.YtakfniknkejgpaaDoor.Sv

/- The laws' marks on bytes: written, and held. -/
namespace Go.Proofs.YtakfniknkejgpaaDoor.Mk
open Go.RowKit Go.Proofs.YtakfniknkejgpaaDoor.Sl Go.Proofs.YtakfniknkejgpaaDoor.By Go.Proofs.YtakfniknkejgpaaDoor.Ap Go.Proofs.YtakfniknkejgpaaDoor.Tx

def marks (a : Int) (n : Nat) : List Int := (List.range n).map fun j : Nat => (a + j) % 256
end Go.Proofs.YtakfniknkejgpaaDoor.Mk
