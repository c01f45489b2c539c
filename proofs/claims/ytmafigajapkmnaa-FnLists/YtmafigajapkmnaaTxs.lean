/- Texts in a slice: read, copied, compared. -/
import Derived.Test.YtmafigajapkmnaaAp
import Derived.Test.YtmafigajapkmnaaReqLaw
import Derived.Test.YtmafigajapkmnaaTakeReq
import Derived.Laws.MakeOwn
import Derived.Laws.NewBlocks
import Derived.Deep.QuietTactic
import Derived.BigQuiet
namespace Go.Proofs.Ytmafigajapkmnaa.Tx
open Go.RowKit Go.Proofs.Ytmafigajapkmnaa.Sl Go.Proofs.Ytmafigajapkmnaa.By Go.Proofs.Ytmafigajapkmnaa.Ap Go.Proofs.Ytmafigajapkmnaa.Rq Go.Proofs.Ytmafigajapkmnaa.Rr

def tnth (ts : List ByteArray) (i : Nat) : ByteArray := ts.getD i ⟨#[]⟩
/-- The slice v holds the texts ts. -/
def RowT (w : World) (v : Value) (ts : List ByteArray) : Prop :=
  ∃ a cap, v = .slice a ts.length cap ∧ (ts = [] ∨ ∃ b off, a = some ⟨b, off, none⟩ ∧ ts.length ≤ cap ∧ b < w.heap.size ∧ ∀ i, i < ts.length → w.cell? ⟨b, off + i, none⟩ = some (.string (tnth ts i)))
theorem RowT.below {w w' : World} {v : Value} {ts : List ByteArray} (h : RowT w v ts) (hb : Below w.heap.size w w') : RowT w' v ts := by
  obtain ⟨a, cap, rfl, h⟩ := h
  refine ⟨a, cap, rfl, ?_⟩
  rcases h with h | ⟨b, off, rfl, hc, hlt, h⟩
  · exact .inl h
  · exact .inr ⟨b, off, rfl, hc, Nat.lt_of_lt_of_le hlt hb.size, fun i hi => (hb.cell (p := ⟨b, off + i, none⟩) hlt).trans (h i hi)⟩
/-- Texts whose sizes add up. -/
def szT (ts : List ByteArray) (k : Nat) : Nat := ((ts.take k).map ByteArray.size).sum
theorem szT_succ (ts : List ByteArray) (k : Nat) (h : k < ts.length) : szT ts (k + 1) = szT ts k + (tnth ts k).size := by
  unfold szT tnth
  rw [List.take_add_one, List.getElem?_eq_getElem h, Option.toList_some, List.map_append, List.sum_append, List.getD_eq_getElem?_getD, List.getElem?_eq_getElem h]
  simp only [List.map_cons, List.map_nil, List.sum_cons, List.sum_nil, Option.getD_some, Nat.add_zero]
theorem szT_mono (ts : List ByteArray) {a b : Nat} (h : a ≤ b) : szT ts a ≤ szT ts b := by
  induction b with
  | zero => have : a = 0 := by omega
            subst this; exact Nat.le_refl _
  | succ b ih =>
    by_cases e : a = b + 1
    · subst e; exact Nat.le_refl _
    · have := ih (by omega)
      by_cases hb : b < ts.length
      · rw [szT_succ ts b hb]; omega
      · have e1 : szT ts (b + 1) = szT ts b := by unfold szT; rw [List.take_of_length_le (by omega), List.take_of_length_le (by omega)]
        rw [e1]; exact this
/-- The budget of a list of texts. -/
def big (ts : List ByteArray) : Bool := decide (1048576 < ts.length + szT ts ts.length)

set_option maxHeartbeats 400000 in
theorem szStringS_any (v : Value) (ts : List ByteArray) (w : World) (h : RowT w v ts) (hl : ts.length ≤ maxLen) (hs : ∀ t ∈ ts, t.size ≤ maxLen) :
    Calls Try.prog 46 #[v, .int .i64 1048576] w fun e w' => (∃ m : Int, e = .returned (.int .i64 m) ∧ (m < 0 ↔ big ts = true)) ∧ w' = w := by
  obtain ⟨a, cap, rfl, h⟩ := h
  unfold maxLen at hl
  by_cases h0 : 1048576 < ts.length
  · have h0' : (1048576 : Int) < (ts.length : Int) := by omega
    have HB : Hid (big ts = true) := by show _ = _; unfold big; rw [decide_eq_true_eq]; omega
    go_enter Try.func46, Try.ntmps46
    go_wp2
    go_ret
    exact ⟨⟨-1, rfl, by rw [HB.out]; simp⟩, rfl⟩
  have h0' : (ts.length : Int) ≤ 1048576 := by omega
  have HT : Hid (∀ i, i < ts.length → (tnth ts i).size ≤ maxLen) := fun i hi => hs _ (by unfold tnth; rw [List.getD_eq_getElem?_getD, List.getElem?_eq_getElem hi]; exact List.getElem_mem hi)
  clear hs hl
  go_enter Try.func46, Try.ntmps46
  go_wp2_with fail
  go_loop [1, 5] (fun m i => ∃ k : Nat, k ≤ ts.length ∧ i = .int .i64 k ∧ m = .int .i64 (1048576 - (ts.length : Int) - (szT ts k : Int)) ∧ ts.length + szT ts k ≤ 1048576) (fun _ i => ts.length - (intOf i).toNat)
  case atStart => exact ⟨0, by omega, rfl, by simp [szT], by simp [szT]; omega⟩
  case round =>
    obtain ⟨k, hk, rfl, rfl, hle⟩ := hrel
    by_cases hlt : k < ts.length
    · rcases h with h | ⟨b, off, rfl, hc, hb, hcell⟩
      · exact absurd hlt (by rw [h]; simp)
      have hc1 := hcell k hlt
      have hm := HT.out k hlt
      unfold maxLen at hm
      have HS : Hid (szT ts (k + 1) = szT ts k + (tnth ts k).size) := szT_succ ts k hlt
      have HM : Hid (szT ts (k + 1) ≤ szT ts ts.length) := szT_mono ts hlt
      generalize szT ts k = q at hle HS
      generalize tnth ts k = t at hc1 hm HS
      clear hcell
      by_cases hbig : 1048576 < ts.length + q + t.size
      · have hbig' : (1048576 : Int) - (ts.length : Int) - (q : Int) - (t.size : Int) < 0 := by omega
        have HB : Hid (big ts = true) := by show _ = _; unfold big; rw [decide_eq_true_eq]; have := HS.out; have := HM.out; omega
        go_wp2
        go_ret
        exact ⟨⟨-1, rfl, by rw [HB.out]; simp⟩, rfl⟩
      · have hbig' : ¬ (1048576 : Int) - (ts.length : Int) - (q : Int) - (t.size : Int) < 0 := by omega
        go_wp2
        go_round
        case rel => exact ⟨k + 1, by omega, by go_num, val_eq (by rw [HS.out]; omega), by rw [HS.out]; omega⟩
        case measure => simp [intOf]; omega
    · obtain rfl : k = ts.length := by omega
      have HB : Hid (big ts = false) := by show _ = _; unfold big; rw [decide_eq_false_iff_not]; omega
      go_wp2
      go_ret
      exact ⟨⟨_, rfl, by rw [HB.out]; simp; omega⟩, rfl⟩

theorem info9 : (Try.prog.info? 9).map (fun i => (i.zero, i.size, i.bytes)) = some (some (.string ⟨#[]⟩), 1, 16) := by kernel_rfl
/-- A slice of texts in a block of its own, behind B. -/
def OwnT (w : World) (B : Nat) (v : Value) (ts : List ByteArray) : Prop :=
  ∃ g A, v = .slice (some ⟨g, 0, none⟩) ts.length ts.length ∧ B ≤ g ∧ w.heap[g]? = some (.cells A 9 (0, 0)) ∧ A.size = ts.length ∧ ∀ j, j < ts.length → A[j]? = some (.string (tnth ts j))
theorem OwnT.row {w : World} {B : Nat} {v : Value} {ts : List ByteArray} (h : OwnT w B v ts) : RowT w v ts := by
  obtain ⟨g, A, rfl, hB, hg, hs, hA⟩ := h
  refine ⟨_, _, rfl, .inr ⟨g, 0, rfl, Nat.le_refl _, (Array.getElem?_eq_some_iff.1 hg).1, fun i hi => ?_⟩⟩
  rw [Nat.zero_add, Joins.cell_of_block hg i]
  exact hA i hi
theorem OwnT.below {w w' : World} {B : Nat} {v : Value} {ts : List ByteArray} (h : OwnT w B v ts) (hb : Below w.heap.size w w') : OwnT w' B v ts := by
  obtain ⟨g, A, rfl, hB, hg, hs, hA⟩ := h
  exact ⟨g, A, rfl, hB, (hb.block g (Array.getElem?_eq_some_iff.1 hg).1).trans hg, hs, hA⟩

def Copied (ts : List ByteArray) (k : Nat) (A : Array Value) : Prop := A.size = ts.length ∧ ∀ j, j < k → A[j]? = some (.string (tnth ts j))
set_option maxHeartbeats 400000 in
theorem toStringS_any (v : Value) (ts : List ByteArray) (w : World) (h : RowT w v ts) (hl : ts.length ≤ 1048576) :
    Calls Try.prog 48 #[v] w fun e w' => ∃ v', e = .returned v' ∧ OwnT w' w.heap.size v' ts ∧ Below w.heap.size w w' := by
  obtain ⟨a, cap, rfl, h⟩ := h
  obtain ⟨i0, hi, hz0, hz1, hz2⟩ := info_parts info9
  have hmk := run_make (P := Try.prog) w 64 9 i0 (.string ⟨#[]⟩) Try.underlying64 hi hz0 .i64 .i64 (ts.length : Int) (ts.length : Int) (by omega) (by omega) (by rw [hz2]; omega) (by omega)
  have hA0 : Copied ts 0 (madeCells (Value.string ⟨#[]⟩).cells ((ts.length : Int).toNat * i0.size)) := ⟨by rw [hz1]; simp [madeCells, Value.cells], fun j hj => absurd hj (by omega)⟩
  generalize madeCells (Value.string ⟨#[]⟩).cells ((ts.length : Int).toNat * i0.size) = A0 at hmk hA0
  rw [Int.toNat_natCast] at hmk
  go_enter Try.func48, Try.ntmps48
  go_wp2_with fail
  clear hmk
  go_loopw [4] (fun i wr => ∃ k : Nat, ∃ A : Array Value, k ≤ ts.length ∧ i = .int .i64 k ∧ wr = w.alloc (.cells A 9) ∧ Copied ts k A) (fun i _ => ts.length - (intOf i).toNat)
  case atStart => exact ⟨0, A0, by omega, rfl, rfl, hA0⟩
  case round =>
    clear hA0
    obtain ⟨k, A, hk, rfl, rfl, hA⟩ := hrel
    by_cases hlt : k < ts.length
    · rcases h with h | ⟨b, off, rfl, hc, hb, hcell⟩
      · exact absurd hlt (by rw [h]; simp)
      have hc1 := hcell k hlt
      have hne : b ≠ w.heap.size := by omega
      obtain ⟨x, hx⟩ : ∃ x, A[k]? = some x := ⟨_, Array.getElem?_eq_getElem (by rw [hA.1]; exact hlt)⟩
      clear hcell
      have hA' : Copied ts (k + 1) (A.setIfInBounds k (.string (tnth ts k))) := by
        refine ⟨by rw [Array.size_setIfInBounds]; exact hA.1, fun j hj => ?_⟩
        rw [Array.getElem?_setIfInBounds]
        by_cases e : k = j
        · subst e
          rw [if_pos rfl, if_pos (by rw [hA.1]; exact hlt)]
        · rw [if_neg e]
          exact hA.2 j (by omega)
      go_wp2
      go_roundw
      case rel => exact ⟨k + 1, _, by omega, by go_num, rfl, hA'⟩
      case measure => simp [intOf]; omega
    · obtain rfl : k = ts.length := by omega
      go_wp2
      go_ret
      exact ⟨_, rfl, ⟨w.heap.size, A, rfl, Nat.le_refl _, blk_new _ _ _, hA.1, hA.2⟩, (Below.refl _ _).alloc (Nat.le_refl _) _⟩

set_option maxHeartbeats 400000 in
theorem eqStringS_same (v u : Value) (ts : List ByteArray) (w : World) (h : RowT w v ts) (g : RowT w u ts) (hl : ts.length ≤ 1048576) :
    Calls Try.prog 50 #[v, u] w fun e w' => e = .returned (.bool true) ∧ Below w.heap.size w w' := by
  obtain ⟨a, cap, rfl, h⟩ := h
  obtain ⟨a', cap', rfl, g⟩ := g
  have hne : ((ts.length : Int) != (ts.length : Int)) = false := by simp
  go_enter Try.func50, Try.ntmps50
  go_wp2_with fail
  go_loopw [5] (fun i wr => ∃ k : Nat, k ≤ ts.length ∧ i = .int .i64 k ∧ ∃ n, wr = w.drewN n) (fun i _ => ts.length - (intOf i).toNat)
  case atStart => exact ⟨0, by omega, rfl, 0, rfl⟩
  case round =>
    obtain ⟨k, hk, rfl, n, rfl⟩ := hrel
    by_cases hlt : k < ts.length
    · rcases h with h | ⟨b, off, rfl, hc, hb, hcell⟩
      · exact absurd hlt (by rw [h]; simp)
      rcases g with g | ⟨b', off', rfl, hc', hb', gcell⟩
      · exact absurd hlt (by rw [g]; simp)
      have hc1 := hcell k hlt
      have hc2 := gcell k hlt
      have hp0 : (0 : Int) ≤ (k : Int) := by omega
      have hp1 : (k : Int) < (ts.length : Int) := by omega
      clear hcell gcell
      go_wp2
      go_quiet (fail)
      go_wp2
      exact ⟨⟨k + 1, by omega, by go_num, n + nq, rfl⟩, by simp [intOf]; omega⟩
    · go_wp2
      go_ret
      exact ⟨rfl, ⟨rfl, rfl, rfl, Nat.le_refl _, fun _ _ => rfl⟩⟩
end Go.Proofs.Ytmafigajapkmnaa.Tx
