/- The laws' helpers on texts: sized, copied; marks on a copy. -/
import Derived.Test.YtkmnjnblacmjlaaMq
namespace Go.Proofs.Ytkmnjnblacmjlaa.Sv
open Go.RowKit Go.Proofs.Ytkmnjnblacmjlaa.Sl Go.Proofs.Ytkmnjnblacmjlaa.By Go.Proofs.Ytkmnjnblacmjlaa.Ap Go.Proofs.Ytkmnjnblacmjlaa.Tx Go.Proofs.Ytkmnjnblacmjlaa.Mk

theorem retI {a b : Int} (h : a = b) : Ending.returned (.int .i64 a) = .returned (.int .i64 b) := by rw [h]
theorem andThen {B : Nat} {W w1 w2 : World} (h : Below B W w1) (hB : B ≤ W.heap.size) (h2 : Below w1.heap.size w1 w2) : Below B W w2 := h.trans (h2.mono (Nat.le_trans hB h.size))

/-- Texts whose sizes add up. -/
def szT (ts : List ByteArray) (k : Nat) : Nat := ((ts.take k).map ByteArray.size).sum
theorem szT_succ (ts : List ByteArray) (k : Nat) (h : k < ts.length) : szT ts (k + 1) = szT ts k + (tnth ts k).size := by
  unfold szT tnth
  rw [List.take_add_one, List.getElem?_eq_getElem h, Option.toList_some, List.map_append, List.sum_append, List.getD_eq_getElem?_getD, List.getElem?_eq_getElem h]
  simp only [List.map_cons, List.map_nil, List.sum_cons, List.sum_nil, Option.getD_some, Nat.add_zero]
theorem szT_mono (ts : List ByteArray) {a b : Nat} (h : a ≤ b) : szT ts a ≤ szT ts b := by
  induction b with
  | zero => have : a = 0 := by omega
            subst this; exact Nat.le_refl _
  | succ b ih =>
    by_cases e : a = b + 1
    · subst e; exact Nat.le_refl _
    · have := ih (by omega)
      by_cases hb : b < ts.length
      · rw [szT_succ ts b hb]; omega
      · have e1 : szT ts (b + 1) = szT ts b := by unfold szT; rw [List.take_of_length_le (by omega), List.take_of_length_le (by omega)]
        rw [e1]; exact this

def tot (ts : List ByteArray) : Nat := ts.length + szT ts ts.length
def lfT (left : Int) (ts : List ByteArray) : Int := if left < (tot ts : Int) then -1 else left - (tot ts : Int)
set_option maxRecDepth 100000 in
set_option maxHeartbeats 400000 in
theorem szStringS_any (v : Value) (ts : List ByteArray) (left : Int) (w : World) (h : RowT w v ts) (hl : ts.length ≤ maxLen) (hs : ∀ t ∈ ts, t.size ≤ maxLen) (h0 : 0 ≤ left) (h1 : left ≤ 1048576) :
    Calls Try.prog 4 #[v, .int .i64 left] w fun e w' => e = .returned (.int .i64 (lfT left ts)) ∧ w = w' := by
  obtain ⟨a, cap, rfl, h⟩ := h
  unfold maxLen at hl
  by_cases hb : left < (ts.length : Int)
  · have HE : Hid (lfT left ts = -1) := by show _ = _; unfold lfT tot; rw [if_pos (by omega)]
    have hb' : left - (ts.length : Int) < 0 := by omega
    go_enter Try.func4, Try.ntmps4
    go_wp2_with fail
    go_ret
    exact ⟨retI HE.out.symm, rfl⟩
  have hb' : ¬ left - (ts.length : Int) < 0 := by omega
  have HT : Hid (∀ i, i < ts.length → (tnth ts i).size ≤ maxLen) := fun i hi => hs _ (tnth_mem hi)
  clear hs
  go_enter Try.func4, Try.ntmps4
  go_wp2_with fail
  go_loop [1, 5] (fun m i => ∃ k : Nat, k ≤ ts.length ∧ i = .int .i64 k ∧ m = .int .i64 (left - (ts.length : Int) - (szT ts k : Int)) ∧ (ts.length : Int) + (szT ts k : Int) ≤ left) (fun _ i => ts.length - (intOf i).toNat)
  case atStart => exact ⟨0, by omega, rfl, by simp [szT], by simp [szT]; omega⟩
  case round =>
    obtain ⟨k, hk, rfl, rfl, hle⟩ := hrel
    by_cases hlt : k < ts.length
    · rcases h with h | ⟨b, off, rfl, hc, hbw, hcell⟩
      · exact absurd hlt (by rw [h]; simp)
      have hc1 := hcell k hlt
      have hm := HT.out k hlt
      unfold maxLen at hm
      have HS : Hid (szT ts (k + 1) = szT ts k + (tnth ts k).size) := szT_succ ts k hlt
      have HM : Hid (szT ts (k + 1) ≤ szT ts ts.length) := szT_mono ts hlt
      have hkl : (k : Int) < (ts.length : Int) := by omega
      generalize szT ts k = q at hle HS
      generalize tnth ts k = t at hc1 hm HS
      clear hcell
      by_cases hbig : left < (ts.length : Int) + (q : Int) + (t.size : Int)
      · have hbig' : left - (ts.length : Int) - (q : Int) - (t.size : Int) < 0 := by omega
        have HE : Hid (lfT left ts = -1) := by show _ = _; unfold lfT tot; rw [if_pos (by have := HS.out; have := HM.out; omega)]
        go_wp2_with fail
        go_ret
        exact ⟨retI HE.out.symm, rfl⟩
      · have hbig' : ¬ left - (ts.length : Int) - (q : Int) - (t.size : Int) < 0 := by omega
        go_wp2_with fail
        go_round
        case rel => exact ⟨k + 1, by omega, by go_num, val_eq (by rw [HS.out]; omega), by rw [HS.out]; omega⟩
        case measure => simp [intOf]; omega
    · obtain rfl : k = ts.length := by omega
      have HE : Hid (lfT left ts = left - (ts.length : Int) - (szT ts ts.length : Int)) := by show _ = _; unfold lfT tot; rw [if_neg (by omega)]; omega
      go_wp2_with fail
      go_ret
      exact ⟨retI HE.out.symm, rfl⟩

/-- A slice of texts in a block of its own, behind B. -/
def OwnT (w : World) (B : Nat) (v : Value) (ts : List ByteArray) : Prop :=
  ∃ g A, v = .slice (some ⟨g, 0, none⟩) ts.length ts.length ∧ B ≤ g ∧ w.heap[g]? = some (.cells A 9 (0, 0)) ∧ A.size = ts.length ∧ ∀ j, j < ts.length → A[j]? = some (.string (tnth ts j))
theorem OwnT.row {w : World} {B : Nat} {v : Value} {ts : List ByteArray} (h : OwnT w B v ts) : RowT w v ts := by
  obtain ⟨g, A, rfl, hB, hg, hs, hA⟩ := h
  refine ⟨_, _, rfl, .inr ⟨g, 0, rfl, Nat.le_refl _, (Array.getElem?_eq_some_iff.1 hg).1, fun i hi => ?_⟩⟩
  rw [Nat.zero_add, Joins.cell_of_block hg i]
  exact hA i hi
theorem OwnT.below {w w' : World} {B : Nat} {v : Value} {ts : List ByteArray} (h : OwnT w B v ts) (hb : Below w.heap.size w w') : OwnT w' B v ts := by
  obtain ⟨g, A, rfl, hB, hg, hs, hA⟩ := h
  exact ⟨g, A, rfl, hB, (hb.block g (Array.getElem?_eq_some_iff.1 hg).1).trans hg, hs, hA⟩

def Copied (ts : List ByteArray) (k : Nat) (A : Array Value) : Prop := A.size = ts.length ∧ ∀ j, j < k → A[j]? = some (.string (tnth ts j))
set_option maxHeartbeats 400000 in
theorem toStringS_any (v : Value) (ts : List ByteArray) (w : World) (h : RowT w v ts) (hl : ts.length ≤ 1048576) :
    Calls Try.prog 6 #[v] w fun e w' => ∃ v', e = .returned v' ∧ OwnT w' w.heap.size v' ts ∧ Below w.heap.size w w' := by
  obtain ⟨a, cap, rfl, h⟩ := h
  obtain ⟨i0, hi, hz0, hz1, hz2⟩ := info_parts info9
  have hmk := run_make (P := Try.prog) w 22 9 i0 (.string ⟨#[]⟩) Try.underlying22 hi hz0 .i64 .i64 (ts.length : Int) (ts.length : Int) (by omega) (by omega) (by rw [hz2]; omega) (by omega)
  have hA0 : Copied ts 0 (madeCells (Value.string ⟨#[]⟩).cells ((ts.length : Int).toNat * i0.size)) := ⟨by rw [hz1]; simp [madeCells, Value.cells], fun j hj => absurd hj (by omega)⟩
  generalize madeCells (Value.string ⟨#[]⟩).cells ((ts.length : Int).toNat * i0.size) = A0 at hmk hA0
  rw [Int.toNat_natCast] at hmk
  go_enter Try.func6, Try.ntmps6
  go_wp2_with fail
  clear hmk
  go_loopw [4] (fun i wr => ∃ k : Nat, ∃ A : Array Value, k ≤ ts.length ∧ i = .int .i64 k ∧ wr = w.alloc (.cells A 9) ∧ Copied ts k A) (fun i _ => ts.length - (intOf i).toNat)
  case atStart => exact ⟨0, A0, by omega, rfl, rfl, hA0⟩
  case round =>
    clear hA0
    obtain ⟨k, A, hk, rfl, rfl, hA⟩ := hrel
    by_cases hlt : k < ts.length
    · rcases h with h | ⟨b, off, rfl, hc, hb, hcell⟩
      · exact absurd hlt (by rw [h]; simp)
      have hc1 := hcell k hlt
      have hne : b ≠ w.heap.size := by omega
      obtain ⟨x, hx⟩ : ∃ x, A[k]? = some x := ⟨_, Array.getElem?_eq_getElem (by rw [hA.1]; exact hlt)⟩
      clear hcell
      have hA' : Copied ts (k + 1) (A.setIfInBounds k (.string (tnth ts k))) := by
        refine ⟨by rw [Array.size_setIfInBounds]; exact hA.1, fun j hj => ?_⟩
        rw [Array.getElem?_setIfInBounds]
        by_cases e : k = j
        · subst e
          rw [if_pos rfl, if_pos (by rw [hA.1]; exact hlt)]
        · rw [if_neg e]
          exact hA.2 j (by omega)
      go_wp2
      go_roundw
      case rel => exact ⟨k + 1, _, by omega, by go_num, rfl, hA'⟩
      case measure => simp [intOf]; omega
    · obtain rfl : k = ts.length := by omega
      go_wp2
      go_ret
      exact ⟨_, rfl, ⟨w.heap.size, A, rfl, Nat.le_refl _, blk_new _ _ _, hA.1, hA.2⟩, (Below.refl _ _).alloc (Nat.le_refl _) _⟩


theorem lfT_neg {ts : List ByteArray} : lfT 1048576 ts < 0 ↔ 1048576 < tot ts := by
  unfold lfT
  split <;> omega
theorem each_small {ts : List ByteArray} (h : ¬ 1048576 < tot ts) : ts.length ≤ 1048576 ∧ ∀ t ∈ ts, t.size ≤ 1048576 := by
  unfold tot at h
  refine ⟨by omega, fun t ht => ?_⟩
  obtain ⟨i, hi, rfl⟩ := List.getElem_of_mem ht
  have h1 := szT_succ ts i hi
  have h2 := szT_mono ts (show i + 1 ≤ ts.length by omega)
  have e : tnth ts i = ts[i] := by unfold tnth; rw [List.getD_eq_getElem?_getD, List.getElem?_eq_getElem hi]; rfl
  rw [e] at h1
  omega
theorem OwnT.lt {w : World} {B : Nat} {v : Value} {ts : List ByteArray} (h : OwnT w B v ts) : ∀ g, v.ownBlock = some g → B ≤ g ∧ g < w.heap.size := by
  obtain ⟨g, A, rfl, hB, hg, _⟩ := h
  intro g' hg'
  simp [Value.ownBlock] at hg'
  subst hg'
  exact ⟨hB, (Array.getElem?_eq_some_iff.1 hg).1⟩
theorem kp_below {w w' : World} {B : Nat} {v : Value} (h : ∀ g, v.ownBlock = some g → B ≤ g) (hk : Kp w w' v v) (hB : B ≤ w.heap.size) : Below B w w' :=
  ⟨hk.os, hk.tape, hk.output, hk.size, fun k hlt => hk.block k (by omega) (fun e => by have := h k e.symm; omega)⟩
theorem ownS_kp {w w' : World} {B : Nat} {v u : Value} {ts : List ByteArray} (h : OwnS w B v ts) (hk : Kp w w' u u) (hu : ∀ g, u.ownBlock = some g → g < B) : OwnS w' B v ts := by
  obtain ⟨hl, h⟩ := h
  refine ⟨hl, ?_⟩
  rcases h with h | ⟨g, cap, cur, hv, hB, hgb, h⟩
  · exact .inl h
  · exact .inr ⟨g, cap, cur, hv, hB, (hk.block g (Array.getElem?_eq_some_iff.1 hgb).1 (fun e => by have := hu g e.symm; omega)).trans hgb, h⟩
end Go.Proofs.Ytkmnjnblacmjlaa.Sv
