/- The laws' helpers on signatures of any size: sized, copied, compared. -/
import Derived.Test.YtimmeclclilpdaaGreatDoorSq
import Derived.Deep.CutRange
import Derived.Deep.DeepCutAuto
namespace Go.Proofs.YtimmeclclilpdaaGreatDoor.Sz
open Go.RowKit Go.Proofs.YtimmeclclilpdaaGreatDoor.Sl Go.Proofs.YtimmeclclilpdaaGreatDoor.By Go.Proofs.YtimmeclclilpdaaGreatDoor.Ap Go.Proofs.YtimmeclclilpdaaGreatDoor.Tx Go.Proofs.YtimmeclclilpdaaGreatDoor.Mk Go.Proofs.YtimmeclclilpdaaGreatDoor.Sg Go.Proofs.YtimmeclclilpdaaGreatDoor.Sq

/-- Texts whose sizes add up. -/
def szT (ts : List ByteArray) (k : Nat) : Nat := ((ts.take k).map ByteArray.size).sum
theorem szT_succ (ts : List ByteArray) (k : Nat) (h : k < ts.length) : szT ts (k + 1) = szT ts k + (tnth ts k).size := by
  unfold szT tnth
  rw [List.take_add_one, List.getElem?_eq_getElem h, Option.toList_some, List.map_append, List.sum_append, List.getD_eq_getElem?_getD, List.getElem?_eq_getElem h]
  simp only [List.map_cons, List.map_nil, List.sum_cons, List.sum_nil, Option.getD_some, Nat.add_zero]
theorem szT_mono (ts : List ByteArray) {a b : Nat} (h : a ≤ b) : szT ts a ≤ szT ts b := by
  induction b with
  | zero => have : a = 0 := by omega
            subst this; exact Nat.le_refl _
  | succ b ih =>
    by_cases e : a = b + 1
    · subst e; exact Nat.le_refl _
    · have := ih (by omega)
      by_cases hb : b < ts.length
      · rw [szT_succ ts b hb]; omega
      · have e1 : szT ts (b + 1) = szT ts b := by unfold szT; rw [List.take_of_length_le (by omega), List.take_of_length_le (by omega)]
        rw [e1]; exact this

def tot (ts : List ByteArray) : Nat := ts.length + szT ts ts.length
def lfT (left : Int) (ts : List ByteArray) : Int := if left < (tot ts : Int) then -1 else left - (tot ts : Int)
set_option maxRecDepth 100000 in
set_option maxHeartbeats 400000 in
theorem szStringS_any (v : Value) (ts : List ByteArray) (left : Int) (w : World) (h : RowT w v ts) (hl : ts.length ≤ maxLen) (hs : ∀ t ∈ ts, t.size ≤ maxLen) (h0 : 0 ≤ left) (h1 : left ≤ 1048576) :
    Calls Tryz.prog 116 #[v, .int .i64 left] w fun e w' => e = .returned (.int .i64 (lfT left ts)) ∧ w = w' := by
  obtain ⟨a, cap, rfl, h⟩ := h
  unfold maxLen at hl
  by_cases hb : left < (ts.length : Int)
  · have HE : Hid (lfT left ts = -1) := by show _ = _; unfold lfT tot; rw [if_pos (by omega)]
    have hb' : left - (ts.length : Int) < 0 := by omega
    go_enter Tryz.func116, Tryz.ntmps116
    go_wp2_with fail
    go_ret
    exact ⟨Hf.ret_int HE.out.symm, rfl⟩
  have hb' : ¬ left - (ts.length : Int) < 0 := by omega
  have HT : Hid (∀ i, i < ts.length → (tnth ts i).size ≤ maxLen) := fun i hi => hs _ (tnth_mem hi)
  clear hs
  go_enter Tryz.func116, Tryz.ntmps116
  go_wp2_with fail
  go_loop [1, 5] (fun m i => ∃ k : Nat, k ≤ ts.length ∧ i = .int .i64 k ∧ m = .int .i64 (left - (ts.length : Int) - (szT ts k : Int)) ∧ (ts.length : Int) + (szT ts k : Int) ≤ left) (fun _ i => ts.length - (intOf i).toNat)
  case atStart => exact ⟨0, by omega, rfl, by simp [szT], by simp [szT]; omega⟩
  case round =>
    obtain ⟨k, hk, rfl, rfl, hle⟩ := hrel
    by_cases hlt : k < ts.length
    · rcases h with h | ⟨b, off, rfl, hc, hbw, hcell⟩
      · exact absurd hlt (by rw [h]; simp)
      have hc1 := hcell k hlt
      have hm := HT.out k hlt
      unfold maxLen at hm
      have HS : Hid (szT ts (k + 1) = szT ts k + (tnth ts k).size) := szT_succ ts k hlt
      have HM : Hid (szT ts (k + 1) ≤ szT ts ts.length) := szT_mono ts hlt
      have hkl : (k : Int) < (ts.length : Int) := by omega
      generalize szT ts k = q at hle HS
      generalize tnth ts k = t at hc1 hm HS
      clear hcell
      by_cases hbig : left < (ts.length : Int) + (q : Int) + (t.size : Int)
      · have hbig' : left - (ts.length : Int) - (q : Int) - (t.size : Int) < 0 := by omega
        have HE : Hid (lfT left ts = -1) := by show _ = _; unfold lfT tot; rw [if_pos (by have := HS.out; have := HM.out; omega)]
        go_wp2_with fail
        go_ret
        exact ⟨Hf.ret_int HE.out.symm, rfl⟩
      · have hbig' : ¬ left - (ts.length : Int) - (q : Int) - (t.size : Int) < 0 := by omega
        go_wp2_with fail
        go_round
        case rel => exact ⟨k + 1, by omega, by go_num, val_eq (by rw [HS.out]; omega), by rw [HS.out]; omega⟩
        case measure => simp [intOf]; omega
    · obtain rfl : k = ts.length := by omega
      have HE : Hid (lfT left ts = left - (ts.length : Int) - (szT ts ts.length : Int)) := by show _ = _; unfold lfT tot; rw [if_neg (by omega)]; omega
      go_wp2_with fail
      go_ret
      exact ⟨Hf.ret_int HE.out.symm, rfl⟩

/-- A slice of texts in a block of its own, behind B. -/
def OwnT (w : World) (B : Nat) (v : Value) (ts : List ByteArray) : Prop :=
  ∃ g A, v = .slice (some ⟨g, 0, none⟩) ts.length ts.length ∧ B ≤ g ∧ w.heap[g]? = some (.cells A 9 (0, 0)) ∧ A.size = ts.length ∧ ∀ j, j < ts.length → A[j]? = some (.string (tnth ts j))
theorem OwnT.row {w : World} {B : Nat} {v : Value} {ts : List ByteArray} (h : OwnT w B v ts) : RowT w v ts := by
  obtain ⟨g, A, rfl, hB, hg, hs, hA⟩ := h
  refine ⟨_, _, rfl, .inr ⟨g, 0, rfl, Nat.le_refl _, (Array.getElem?_eq_some_iff.1 hg).1, fun i hi => ?_⟩⟩
  rw [Nat.zero_add, Joins.cell_of_block hg i]
  exact hA i hi
theorem OwnT.below {w w' : World} {B : Nat} {v : Value} {ts : List ByteArray} (h : OwnT w B v ts) (hb : Below w.heap.size w w') : OwnT w' B v ts := by
  obtain ⟨g, A, rfl, hB, hg, hs, hA⟩ := h
  exact ⟨g, A, rfl, hB, (hb.block g (Array.getElem?_eq_some_iff.1 hg).1).trans hg, hs, hA⟩

def Copied (ts : List ByteArray) (k : Nat) (A : Array Value) : Prop := A.size = ts.length ∧ ∀ j, j < k → A[j]? = some (.string (tnth ts j))
set_option maxHeartbeats 400000 in
theorem toStringS_any (v : Value) (ts : List ByteArray) (w : World) (h : RowT w v ts) (hl : ts.length ≤ 1048576) :
    Calls Tryz.prog 117 #[v] w fun e w' => ∃ v', e = .returned v' ∧ OwnT w' w.heap.size v' ts ∧ Below w.heap.size w w' := by
  obtain ⟨a, cap, rfl, h⟩ := h
  obtain ⟨i0, hi, hz0, hz1, hz2⟩ := info_parts info9
  have hmk := run_make (P := Tryz.prog) w 35 9 i0 (.string ⟨#[]⟩) Tryz.underlying35 hi hz0 .i64 .i64 (ts.length : Int) (ts.length : Int) (by omega) (by omega) (by rw [hz2]; omega) (by omega)
  have hA0 : Copied ts 0 (madeCells (Value.string ⟨#[]⟩).cells ((ts.length : Int).toNat * i0.size)) := ⟨by rw [hz1]; simp [madeCells, Value.cells], fun j hj => absurd hj (by omega)⟩
  generalize madeCells (Value.string ⟨#[]⟩).cells ((ts.length : Int).toNat * i0.size) = A0 at hmk hA0
  rw [Int.toNat_natCast] at hmk
  go_enter Tryz.func117, Tryz.ntmps117
  go_wp2_with fail
  clear hmk
  go_loopw [4] (fun i wr => ∃ k : Nat, ∃ A : Array Value, k ≤ ts.length ∧ i = .int .i64 k ∧ wr = w.alloc (.cells A 9) ∧ Copied ts k A) (fun i _ => ts.length - (intOf i).toNat)
  case atStart => exact ⟨0, A0, by omega, rfl, rfl, hA0⟩
  case round =>
    clear hA0
    obtain ⟨k, A, hk, rfl, rfl, hA⟩ := hrel
    by_cases hlt : k < ts.length
    · rcases h with h | ⟨b, off, rfl, hc, hb, hcell⟩
      · exact absurd hlt (by rw [h]; simp)
      have hc1 := hcell k hlt
      have hne : b ≠ w.heap.size := by omega
      obtain ⟨x, hx⟩ : ∃ x, A[k]? = some x := ⟨_, Array.getElem?_eq_getElem (by rw [hA.1]; exact hlt)⟩
      clear hcell
      have hA' : Copied ts (k + 1) (A.setIfInBounds k (.string (tnth ts k))) := by
        refine ⟨by rw [Array.size_setIfInBounds]; exact hA.1, fun j hj => ?_⟩
        rw [Array.getElem?_setIfInBounds]
        by_cases e : k = j
        · subst e
          rw [if_pos rfl, if_pos (by rw [hA.1]; exact hlt)]
        · rw [if_neg e]
          exact hA.2 j (by omega)
      go_wp2
      go_roundw
      case rel => exact ⟨k + 1, _, by omega, by go_num, rfl, hA'⟩
      case measure => simp [intOf]; omega
    · obtain rfl : k = ts.length := by omega
      go_wp2
      go_ret
      exact ⟨_, rfl, ⟨w.heap.size, A, rfl, Nat.le_refl _, blk_new _ _ _, hA.1, hA.2⟩, (Below.refl _ _).alloc (Nat.le_refl _) _⟩


/-- The budget of a signature's lists. -/
def lf3 (ta tb tc : List ByteArray) : Int := if lfT 1048576 ta < 0 then -1 else if lfT (lfT 1048576 ta) tb < 0 then -1 else if lfT (lfT (lfT 1048576 ta) tb) tc < 0 then -1 else lfT (lfT (lfT 1048576 ta) tb) tc
theorem lfT_le {left : Int} {ts : List ByteArray} (h1 : left ≤ 1048576) (h0 : 0 ≤ left) : lfT left ts ≤ 1048576 ∧ (0 ≤ lfT left ts → (ts.length : Int) ≤ 1048576 ∧ lfT left ts = left - tot ts) ∧ (lfT left ts < 0 → lfT left ts = -1) := by
  unfold lfT tot
  split
  · exact ⟨by omega, fun h => by omega, fun _ => rfl⟩
  · exact ⟨by omega, fun h => ⟨by omega, rfl⟩, fun h => by omega⟩
set_option maxRecDepth 100000 in
set_option maxHeartbeats 800000 in
theorem szKeySignature_any (i : Int) (ua ub uc : Value) (ta tb tc : List ByteArray) (w : World) (ra : RowT w ua ta) (rb : RowT w ub tb) (rc : RowT w uc tc) (la : ta.length ≤ maxLen) (lb : tb.length ≤ maxLen) (lc : tc.length ≤ maxLen) (za : ∀ t ∈ ta, t.size ≤ maxLen) (zb : ∀ t ∈ tb, t.size ≤ maxLen) (zc : ∀ t ∈ tc, t.size ≤ maxLen) :
    Calls Tryz.prog 87 #[.agg #[.int .i64 i, ua, ub, uc], .int .i64 1048576] w fun e w' => (∃ m : Int, e = .returned (.int .i64 m) ∧ (¬ m < 0 → ta.length ≤ 1048576 ∧ tb.length ≤ 1048576 ∧ tc.length ≤ 1048576)) ∧ Below w.heap.size w w' := by
  have HS1 : Hid (∀ (o : Obj) (l : Int), 0 ≤ l → l ≤ 1048576 → Calls Tryz.prog 116 #[ua, .int .i64 l] (w.alloc o) fun e w' => e = .returned (.int .i64 (lfT l ta)) ∧ (w.alloc o) = w') := fun o l h0 h1 => szStringS_any ua ta l _ (ra.below (bel_new _ _)) la za h0 h1
  have HS2 : Hid (∀ (o : Obj) (l : Int), 0 ≤ l → l ≤ 1048576 → Calls Tryz.prog 116 #[ub, .int .i64 l] (w.alloc o) fun e w' => e = .returned (.int .i64 (lfT l tb)) ∧ (w.alloc o) = w') := fun o l h0 h1 => szStringS_any ub tb l _ (rb.below (bel_new _ _)) lb zb h0 h1
  have HS3 : Hid (∀ (o : Obj) (l : Int), 0 ≤ l → l ≤ 1048576 → Calls Tryz.prog 116 #[uc, .int .i64 l] (w.alloc o) fun e w' => e = .returned (.int .i64 (lfT l tc)) ∧ (w.alloc o) = w') := fun o l h0 h1 => szStringS_any uc tc l _ (rc.below (bel_new _ _)) lc zc h0 h1
  obtain ⟨a1, c1, rfl, _⟩ := ra
  obtain ⟨a2, c2, rfl, _⟩ := rb
  obtain ⟨a3, c3, rfl, _⟩ := rc
  clear la lb lc za zb zc
  have e1 := lfT_le (left := 1048576) (ts := ta) (by decide) (by decide)
  by_cases h1 : lfT 1048576 ta < 0
  · have HM : Hid _ := h1
    go_enter Tryz.func87, Tryz.ntmps87
    go_wp2_with fail
    refine (HS1.out _ 1048576 (by decide) (by decide)).mono ?_
    rintro e w9 ⟨rfl, rfl⟩
    clear e1
    generalize lfT 1048576 ta = m1 at h1
    go_wp2_with fail
    go_ret
    exact ⟨⟨-1, rfl, fun h => by omega⟩, bel_new _ _⟩
  obtain ⟨l1, _⟩ := e1.2.1 (by omega)
  have e2 := lfT_le (left := lfT 1048576 ta) (ts := tb) e1.1 (by omega)
  by_cases h2 : lfT (lfT 1048576 ta) tb < 0
  · have HQ : Hid (0 ≤ lfT 1048576 ta ∧ lfT 1048576 ta ≤ 1048576) := ⟨by omega, e1.1⟩
    go_enter Tryz.func87, Tryz.ntmps87
    go_wp2_with fail
    refine (HS1.out _ 1048576 (by decide) (by decide)).mono ?_
    rintro e w9 ⟨rfl, rfl⟩
    clear e1 e2
    generalize lfT 1048576 ta = m1 at h1 h2 HQ
    go_wp2_with fail
    refine (HS2.out _ m1 HQ.out.1 HQ.out.2).mono ?_
    rintro e w9 ⟨rfl, rfl⟩
    generalize lfT m1 tb = m2 at h2
    go_wp2_with fail
    go_ret
    exact ⟨⟨-1, rfl, fun h => by omega⟩, bel_new _ _⟩
  obtain ⟨l2, _⟩ := e2.2.1 (by omega)
  have e3 := lfT_le (left := lfT (lfT 1048576 ta) tb) (ts := tc) e2.1 (by omega)
  have HQ : Hid ((0 ≤ lfT 1048576 ta ∧ lfT 1048576 ta ≤ 1048576) ∧ (0 ≤ lfT (lfT 1048576 ta) tb ∧ lfT (lfT 1048576 ta) tb ≤ 1048576)) := ⟨⟨by omega, e1.1⟩, by omega, e2.1⟩
  have HL : Hid (¬ lfT (lfT (lfT 1048576 ta) tb) tc < 0 → ta.length ≤ 1048576 ∧ tb.length ≤ 1048576 ∧ tc.length ≤ 1048576) := fun h => ⟨by omega, by omega, by have := (e3.2.1 (by omega)).1; omega⟩
  clear e1 e2 e3
  by_cases h3 : lfT (lfT (lfT 1048576 ta) tb) tc < 0
  · go_enter Tryz.func87, Tryz.ntmps87
    go_wp2_with fail
    refine (HS1.out _ 1048576 (by decide) (by decide)).mono ?_
    rintro e w9 ⟨rfl, rfl⟩
    generalize lfT 1048576 ta = m1 at h1 h2 h3 HQ
    go_wp2_with fail
    refine (HS2.out _ m1 HQ.out.1.1 HQ.out.1.2).mono ?_
    rintro e w9 ⟨rfl, rfl⟩
    generalize lfT m1 tb = m2 at h2 h3 HQ
    go_wp2_with fail
    refine (HS3.out _ m2 HQ.out.2.1 HQ.out.2.2).mono ?_
    rintro e w9 ⟨rfl, rfl⟩
    generalize lfT m2 tc = m3 at h3
    go_wp2_with fail
    go_ret
    exact ⟨⟨-1, rfl, fun h => by omega⟩, bel_new _ _⟩
  · go_enter Tryz.func87, Tryz.ntmps87
    go_wp2_with fail
    refine (HS1.out _ 1048576 (by decide) (by decide)).mono ?_
    rintro e w9 ⟨rfl, rfl⟩
    generalize lfT 1048576 ta = m1 at h1 h2 h3 HQ HL
    go_wp2_with fail
    refine (HS2.out _ m1 HQ.out.1.1 HQ.out.1.2).mono ?_
    rintro e w9 ⟨rfl, rfl⟩
    generalize lfT m1 tb = m2 at h2 h3 HQ HL
    go_wp2_with fail
    refine (HS3.out _ m2 HQ.out.2.1 HQ.out.2.2).mono ?_
    rintro e w9 ⟨rfl, rfl⟩
    generalize lfT m2 tc = m3 at h3 HL
    go_wp2_with fail
    go_ret
    exact ⟨⟨m3, rfl, fun _ => HL.out h3⟩, bel_new _ _⟩

/-- What is known of a copy that is being made. -/
structure Cpy (w W : World) (i : Int) (u1 u2 u3 x1 x2 x3 : Value) : Prop where
  bx : W.heap[w.heap.size]? = some (.cells #[.int .i64 i, u1, u2, u3] 108 (0, 0))
  rs : W.heap[w.heap.size + 1]? = some (.cells #[.int .i64 0, .slice none 0 0, .slice none 0 0, .slice none 0 0] 37 (0, 0))
  ou : W.heap[w.heap.size + 1 + 1]? = some (.cells #[.int .i64 i, x1, x2, x3] 37 (0, 0))
  be : Below w.heap.size w W
  sz : w.heap.size + 1 + 1 + 1 ≤ W.heap.size
theorem Cpy.below {w W W' : World} {i : Int} {u1 u2 u3 x1 x2 x3 : Value} (h : Cpy w W i u1 u2 u3 x1 x2 x3) (b : Below W.heap.size W W') : Cpy w W' i u1 u2 u3 x1 x2 x3 := by
  have hs := h.sz
  have hs2 := b.size
  exact ⟨(b.block _ (by omega)).trans h.bx, (b.block _ (by omega)).trans h.rs, (b.block _ (by omega)).trans h.ou, h.be.trans (b.mono h.be.size), by omega⟩
theorem Cpy.set1 {w W : World} {i : Int} {u1 u2 u3 x1 x2 x3 : Value} (h : Cpy w W i u1 u2 u3 x1 x2 x3) (y : Value) : Cpy w (W.setCell ⟨w.heap.size + 1 + 1, 1, none⟩ y) i u1 u2 u3 y x2 x3 :=
  ⟨(blk_far (by omega) 1 y).trans h.bx, (blk_far (by omega) 1 y).trans h.rs, blk_set h.ou 1 y, Below.setCell h.be (p := ⟨w.heap.size + 1 + 1, 1, none⟩) (by simp <;> omega) y, by simpa using h.sz⟩
theorem Cpy.set2 {w W : World} {i : Int} {u1 u2 u3 x1 x2 x3 : Value} (h : Cpy w W i u1 u2 u3 x1 x2 x3) (y : Value) : Cpy w (W.setCell ⟨w.heap.size + 1 + 1, 2, none⟩ y) i u1 u2 u3 x1 y x3 :=
  ⟨(blk_far (by omega) 2 y).trans h.bx, (blk_far (by omega) 2 y).trans h.rs, blk_set h.ou 2 y, Below.setCell h.be (p := ⟨w.heap.size + 1 + 1, 2, none⟩) (by simp <;> omega) y, by simpa using h.sz⟩
theorem Cpy.set3 {w W : World} {i : Int} {u1 u2 u3 x1 x2 x3 : Value} (h : Cpy w W i u1 u2 u3 x1 x2 x3) (y : Value) : Cpy w (W.setCell ⟨w.heap.size + 1 + 1, 3, none⟩ y) i u1 u2 u3 x1 x2 y :=
  ⟨(blk_far (by omega) 3 y).trans h.bx, (blk_far (by omega) 3 y).trans h.rs, blk_set h.ou 3 y, Below.setCell h.be (p := ⟨w.heap.size + 1 + 1, 3, none⟩) (by simp <;> omega) y, by simpa using h.sz⟩
theorem row_far {w : World} {p j : Nat} {v x : Value} {ts : List ByteArray} (h : RowT w v ts) (hp : ∀ k, v.ownBlock = some k → k ≠ p) : RowT (w.setCell ⟨p, j, none⟩ x) v ts := by
  obtain ⟨a, cap, rfl, h⟩ := h
  refine ⟨a, cap, rfl, ?_⟩
  rcases h with h | ⟨b, off, rfl, hc, hlt, h⟩
  · exact .inl h
  · exact .inr ⟨b, off, rfl, hc, by simpa using hlt, fun i hi => (World.cell?_of_block (a := ⟨b, off + i, none⟩) (blk_far (hp b rfl) j x)).trans (h i hi)⟩
theorem at_far {g p n c : Nat} (h : g ≠ p) : ∀ k, (Value.slice (some ⟨g, 0, none⟩) n c).ownBlock = some k → k ≠ p := fun k h1 => by
  have e1 : g = k := Option.some.inj h1
  omega
theorem start3 (w : World) (i : Int) (u1 u2 u3 : Value) : Cpy w (((w.alloc (.cells #[.int .i64 i, u1, u2, u3] 108)).alloc (.cells #[.int .i64 0, .slice none 0 0, .slice none 0 0, .slice none 0 0] 37)).alloc (.cells #[.int .i64 i, .slice none 0 0, .slice none 0 0, .slice none 0 0] 37)) i u1 u2 u3 (.slice none 0 0) (.slice none 0 0) (.slice none 0 0) := by
  have s1 := size_new w (.cells #[.int .i64 i, u1, u2, u3] 108)
  have s2 := size_new (w.alloc (.cells #[.int .i64 i, u1, u2, u3] 108)) (.cells #[.int .i64 0, .slice none 0 0, .slice none 0 0, .slice none 0 0] 37)
  have e2 := blk_new (w.alloc (.cells #[.int .i64 i, u1, u2, u3] 108)) #[.int .i64 0, .slice none 0 0, .slice none 0 0, .slice none 0 0] 37
  have e3 := blk_new ((w.alloc (.cells #[.int .i64 i, u1, u2, u3] 108)).alloc (.cells #[.int .i64 0, .slice none 0 0, .slice none 0 0, .slice none 0 0] 37)) #[.int .i64 i, .slice none 0 0, .slice none 0 0, .slice none 0 0] 37
  rw [s1] at e2
  rw [s2, s1] at e3
  have h1 := bel_new w (.cells #[.int .i64 i, u1, u2, u3] 108)
  have h2 := h1.alloc h1.size (.cells #[.int .i64 0, .slice none 0 0, .slice none 0 0, .slice none 0 0] 37)
  exact ⟨(Below.heap_alloc _ _ _ (by omega)).trans ((Below.heap_alloc _ _ _ (by omega)).trans (blk_new _ _ _)), (Below.heap_alloc _ _ _ (by omega)).trans e2, e3, h2.alloc h2.size _, by rw [size_new, s2, s1]; exact Nat.le_refl _⟩
set_option maxRecDepth 100000 in
set_option maxHeartbeats 1600000 in
theorem toKeySignature_any (i : Int) (ua ub uc : Value) (ta tb tc : List ByteArray) (w : World) (ra : RowT w ua ta) (rb : RowT w ub tb) (rc : RowT w uc tc) (la : ta.length ≤ 1048576) (lb : tb.length ≤ 1048576) (lc : tc.length ≤ 1048576) :
    Calls Tryz.prog 88 #[.agg #[.int .i64 i, ua, ub, uc]] w fun e w' => ∃ va vb vc, e = .returned (.agg #[.int .i64 i, va, vb, vc]) ∧ RowT w' va ta ∧ RowT w' vb tb ∧ RowT w' vc tc ∧ Below w.heap.size w w' := by
  have HR : Hid (RowT w ua ta ∧ RowT w ub tb ∧ RowT w uc tc ∧ ta.length ≤ 1048576 ∧ tb.length ≤ 1048576 ∧ tc.length ≤ 1048576) := ⟨ra, rb, rc, la, lb, lc⟩
  obtain ⟨a1, c1, rfl, _⟩ := ra
  obtain ⟨a2, c2, rfl, _⟩ := rb
  obtain ⟨a3, c3, rfl, _⟩ := rc
  have S0 : Hid _ := start3 w i (.slice a1 ta.length c1) (.slice a2 tb.length c2) (.slice a3 tc.length c3)
  clear la lb lc
  go_enter Tryz.func88, Tryz.ntmps88
  go_wp2_with fail
  refine (toStringS_any _ ta _ (HR.out.1.below S0.out.be) HR.out.2.2.2.1).mono ?_
  rintro e w1 ⟨v1, rfl, o1, b1⟩
  have r1 := o1.row
  obtain ⟨g1, A1, rfl, h1, _⟩ := o1
  have C1 : Hid (Cpy w w1 i (.slice a1 ta.length c1) (.slice a2 tb.length c2) (.slice a3 tc.length c3) (.slice none 0 0) (.slice none 0 0) (.slice none 0 0)) := S0.out.below b1
  obtain ⟨f1, f2⟩ := blk_cell C1.out.ou 1 (x := .slice none 0 0) rfl
  have D1 : Hid (Cpy w (w1.setCell ⟨w.heap.size + 1 + 1, 1, none⟩ (.slice (some ⟨g1, 0, none⟩) ta.length ta.length)) i (.slice a1 ta.length c1) (.slice a2 tb.length c2) (.slice a3 tc.length c3) (.slice (some ⟨g1, 0, none⟩) ta.length ta.length) (.slice none 0 0) (.slice none 0 0)) := C1.out.set1 _
  have hg1 : w.heap.size + 1 + 1 + 1 ≤ g1 := Nat.le_trans S0.out.sz h1
  have R1 : Hid (RowT (w1.setCell ⟨w.heap.size + 1 + 1, 1, none⟩ (.slice (some ⟨g1, 0, none⟩) ta.length ta.length)) (.slice (some ⟨g1, 0, none⟩) ta.length ta.length) ta) := row_far r1 (at_far (by omega))
  have p2 := (blk_cell D1.out.bx 2 (x := .slice a2 tb.length c2) rfl).1
  clear r1 b1 h1
  go_upto_region 4 with fail
  generalize (w1.setCell ⟨w.heap.size + 1 + 1, 1, none⟩ (.slice (some ⟨g1, 0, none⟩) ta.length ta.length)) = w2 at D1 R1 p2 ⊢
  clear f1 f2
  go_wp2_with fail
  refine (toStringS_any _ tb _ (HR.out.2.1.below D1.out.be) HR.out.2.2.2.2.1).mono ?_
  rintro e w3 ⟨v2, rfl, o2, b2⟩
  have r2 := o2.row
  obtain ⟨g2, A2, rfl, h2, _⟩ := o2
  have C2 := D1.out.below b2
  obtain ⟨f1, f2⟩ := blk_cell C2.ou 2 (x := .slice none 0 0) rfl
  have D2 : Hid (Cpy w (w3.setCell ⟨w.heap.size + 1 + 1, 2, none⟩ (.slice (some ⟨g2, 0, none⟩) tb.length tb.length)) i (.slice a1 ta.length c1) (.slice a2 tb.length c2) (.slice a3 tc.length c3) (.slice (some ⟨g1, 0, none⟩) ta.length ta.length) (.slice (some ⟨g2, 0, none⟩) tb.length tb.length) (.slice none 0 0)) := C2.set2 _
  have hg2 : w.heap.size + 1 + 1 + 1 ≤ g2 := Nat.le_trans D1.out.sz h2
  have R2 : Hid (RowT (w3.setCell ⟨w.heap.size + 1 + 1, 2, none⟩ (.slice (some ⟨g2, 0, none⟩) tb.length tb.length)) (.slice (some ⟨g1, 0, none⟩) ta.length ta.length) ta ∧ RowT (w3.setCell ⟨w.heap.size + 1 + 1, 2, none⟩ (.slice (some ⟨g2, 0, none⟩) tb.length tb.length)) (.slice (some ⟨g2, 0, none⟩) tb.length tb.length) tb) := ⟨row_far (R1.out.below b2) (at_far (by omega)), row_far r2 (at_far (by omega))⟩
  have p3 := (blk_cell D2.out.bx 3 (x := .slice a3 tc.length c3) rfl).1
  clear r2 b2 h2 C2 p2
  go_upto_region 5 with fail
  generalize (w3.setCell ⟨w.heap.size + 1 + 1, 2, none⟩ (.slice (some ⟨g2, 0, none⟩) tb.length tb.length)) = w4 at D2 R2 p3 ⊢
  clear f1 f2
  go_wp2_with fail
  refine (toStringS_any _ tc _ (HR.out.2.2.1.below D2.out.be) HR.out.2.2.2.2.2).mono ?_
  rintro e w5 ⟨v3, rfl, o3, b3⟩
  have r3 := o3.row
  obtain ⟨g3, A3, rfl, h3, _⟩ := o3
  have C3 := D2.out.below b3
  obtain ⟨f1, f2⟩ := blk_cell C3.ou 3 (x := .slice none 0 0) rfl
  have D3 : Hid (Cpy w (w5.setCell ⟨w.heap.size + 1 + 1, 3, none⟩ (.slice (some ⟨g3, 0, none⟩) tc.length tc.length)) i (.slice a1 ta.length c1) (.slice a2 tb.length c2) (.slice a3 tc.length c3) (.slice (some ⟨g1, 0, none⟩) ta.length ta.length) (.slice (some ⟨g2, 0, none⟩) tb.length tb.length) (.slice (some ⟨g3, 0, none⟩) tc.length tc.length)) := C3.set3 _
  have hg3 : w.heap.size + 1 + 1 + 1 ≤ g3 := Nat.le_trans D2.out.sz h3
  have R3 : Hid (RowT (w5.setCell ⟨w.heap.size + 1 + 1, 3, none⟩ (.slice (some ⟨g3, 0, none⟩) tc.length tc.length)) (.slice (some ⟨g1, 0, none⟩) ta.length ta.length) ta ∧ RowT (w5.setCell ⟨w.heap.size + 1 + 1, 3, none⟩ (.slice (some ⟨g3, 0, none⟩) tc.length tc.length)) (.slice (some ⟨g2, 0, none⟩) tb.length tb.length) tb ∧ RowT (w5.setCell ⟨w.heap.size + 1 + 1, 3, none⟩ (.slice (some ⟨g3, 0, none⟩) tc.length tc.length)) (.slice (some ⟨g3, 0, none⟩) tc.length tc.length) tc) := ⟨row_far (R2.out.1.below b3) (at_far (by omega)), row_far (R2.out.2.below b3) (at_far (by omega)), row_far r3 (at_far (by omega))⟩
  clear r3 b3 h3 C3 p3
  go_upto_region 6 with fail
  generalize (w5.setCell ⟨w.heap.size + 1 + 1, 3, none⟩ (.slice (some ⟨g3, 0, none⟩) tc.length tc.length)) = w6 at D3 R3 ⊢
  clear f1 f2
  have k0 := (blk_cell D3.out.ou 0 (x := .int .i64 i) rfl).1
  have k1 := (blk_cell D3.out.ou 1 (x := .slice (some ⟨g1, 0, none⟩) ta.length ta.length) rfl).1
  have k2 := (blk_cell D3.out.ou 2 (x := .slice (some ⟨g2, 0, none⟩) tb.length tb.length) rfl).1
  have k3 := (blk_cell D3.out.ou 3 (x := .slice (some ⟨g3, 0, none⟩) tc.length tc.length) rfl).1
  obtain ⟨zc0, zf0⟩ := blk_cell D3.out.rs 0 (x := .int .i64 0) rfl
  obtain ⟨zc1, zf1⟩ := blk_cell D3.out.rs 1 (x := .slice none 0 0) rfl
  obtain ⟨zc2, zf2⟩ := blk_cell D3.out.rs 2 (x := .slice none 0 0) rfl
  obtain ⟨zc3, zf3⟩ := blk_cell D3.out.rs 3 (x := .slice none 0 0) rfl
  have AF : ((((w6.setCell ⟨w.heap.size + 1, 0, none⟩ (.int .i64 i)).setCell ⟨w.heap.size + 1, 1, none⟩ (.slice (some ⟨g1, 0, none⟩) ta.length ta.length)).setCell ⟨w.heap.size + 1, 2, none⟩ (.slice (some ⟨g2, 0, none⟩) tb.length tb.length)).setCell ⟨w.heap.size + 1, 3, none⟩ (.slice (some ⟨g3, 0, none⟩) tc.length tc.length)).heap[w.heap.size + 1]? = some (.cells #[.int .i64 i, .slice (some ⟨g1, 0, none⟩) ta.length ta.length, .slice (some ⟨g2, 0, none⟩) tb.length tb.length, .slice (some ⟨g3, 0, none⟩) tc.length tc.length] 37 (0, 0)) := (blk_set (blk_set (blk_set (blk_set D3.out.rs 0 (.int .i64 i)) 1 (.slice (some ⟨g1, 0, none⟩) ta.length ta.length)) 2 (.slice (some ⟨g2, 0, none⟩) tb.length tb.length)) 3 (.slice (some ⟨g3, 0, none⟩) tc.length tc.length))
  have GF : Below w.heap.size w ((((w6.setCell ⟨w.heap.size + 1, 0, none⟩ (.int .i64 i)).setCell ⟨w.heap.size + 1, 1, none⟩ (.slice (some ⟨g1, 0, none⟩) ta.length ta.length)).setCell ⟨w.heap.size + 1, 2, none⟩ (.slice (some ⟨g2, 0, none⟩) tb.length tb.length)).setCell ⟨w.heap.size + 1, 3, none⟩ (.slice (some ⟨g3, 0, none⟩) tc.length tc.length)) := (Below.setCell (Below.setCell (Below.setCell (Below.setCell D3.out.be (p := ⟨w.heap.size + 1, 0, none⟩) (by simp <;> omega) (.int .i64 i)) (p := ⟨w.heap.size + 1, 1, none⟩) (by simp <;> omega) (.slice (some ⟨g1, 0, none⟩) ta.length ta.length)) (p := ⟨w.heap.size + 1, 2, none⟩) (by simp <;> omega) (.slice (some ⟨g2, 0, none⟩) tb.length tb.length)) (p := ⟨w.heap.size + 1, 3, none⟩) (by simp <;> omega) (.slice (some ⟨g3, 0, none⟩) tc.length tc.length))
  have RF : RowT ((((w6.setCell ⟨w.heap.size + 1, 0, none⟩ (.int .i64 i)).setCell ⟨w.heap.size + 1, 1, none⟩ (.slice (some ⟨g1, 0, none⟩) ta.length ta.length)).setCell ⟨w.heap.size + 1, 2, none⟩ (.slice (some ⟨g2, 0, none⟩) tb.length tb.length)).setCell ⟨w.heap.size + 1, 3, none⟩ (.slice (some ⟨g3, 0, none⟩) tc.length tc.length)) (.slice (some ⟨g1, 0, none⟩) ta.length ta.length) ta ∧ RowT ((((w6.setCell ⟨w.heap.size + 1, 0, none⟩ (.int .i64 i)).setCell ⟨w.heap.size + 1, 1, none⟩ (.slice (some ⟨g1, 0, none⟩) ta.length ta.length)).setCell ⟨w.heap.size + 1, 2, none⟩ (.slice (some ⟨g2, 0, none⟩) tb.length tb.length)).setCell ⟨w.heap.size + 1, 3, none⟩ (.slice (some ⟨g3, 0, none⟩) tc.length tc.length)) (.slice (some ⟨g2, 0, none⟩) tb.length tb.length) tb ∧ RowT ((((w6.setCell ⟨w.heap.size + 1, 0, none⟩ (.int .i64 i)).setCell ⟨w.heap.size + 1, 1, none⟩ (.slice (some ⟨g1, 0, none⟩) ta.length ta.length)).setCell ⟨w.heap.size + 1, 2, none⟩ (.slice (some ⟨g2, 0, none⟩) tb.length tb.length)).setCell ⟨w.heap.size + 1, 3, none⟩ (.slice (some ⟨g3, 0, none⟩) tc.length tc.length)) (.slice (some ⟨g3, 0, none⟩) tc.length tc.length) tc := ⟨(row_far (j := 3) (x := .slice (some ⟨g3, 0, none⟩) tc.length tc.length) (row_far (j := 2) (x := .slice (some ⟨g2, 0, none⟩) tb.length tb.length) (row_far (j := 1) (x := .slice (some ⟨g1, 0, none⟩) ta.length ta.length) (row_far (j := 0) (x := .int .i64 i) R3.out.1 (at_far (by omega))) (at_far (by omega))) (at_far (by omega))) (at_far (by omega))), (row_far (j := 3) (x := .slice (some ⟨g3, 0, none⟩) tc.length tc.length) (row_far (j := 2) (x := .slice (some ⟨g2, 0, none⟩) tb.length tb.length) (row_far (j := 1) (x := .slice (some ⟨g1, 0, none⟩) ta.length ta.length) (row_far (j := 0) (x := .int .i64 i) R3.out.2.1 (at_far (by omega))) (at_far (by omega))) (at_far (by omega))) (at_far (by omega))), (row_far (j := 3) (x := .slice (some ⟨g3, 0, none⟩) tc.length tc.length) (row_far (j := 2) (x := .slice (some ⟨g2, 0, none⟩) tb.length tb.length) (row_far (j := 1) (x := .slice (some ⟨g1, 0, none⟩) ta.length ta.length) (row_far (j := 0) (x := .int .i64 i) R3.out.2.2 (at_far (by omega))) (at_far (by omega))) (at_far (by omega))) (at_far (by omega)))⟩
  go_wp2_with fail
  generalize ((((w6.setCell ⟨w.heap.size + 1, 0, none⟩ (.int .i64 i)).setCell ⟨w.heap.size + 1, 1, none⟩ (.slice (some ⟨g1, 0, none⟩) ta.length ta.length)).setCell ⟨w.heap.size + 1, 2, none⟩ (.slice (some ⟨g2, 0, none⟩) tb.length tb.length)).setCell ⟨w.heap.size + 1, 3, none⟩ (.slice (some ⟨g3, 0, none⟩) tc.length tc.length)) = wf at AF GF RF ⊢
  have d0 := (blk_cell AF 0 (x := .int .i64 i) rfl).1
  have d1 := (blk_cell AF 1 (x := .slice (some ⟨g1, 0, none⟩) ta.length ta.length) rfl).1
  have d2 := (blk_cell AF 2 (x := .slice (some ⟨g2, 0, none⟩) tb.length tb.length) rfl).1
  have d3 := (blk_cell AF 3 (x := .slice (some ⟨g3, 0, none⟩) tc.length tc.length) rfl).1
  refine bodyPost_ret (v := .agg #[.int .i64 i, .slice (some ⟨g1, 0, none⟩) ta.length ta.length, .slice (some ⟨g2, 0, none⟩) tb.length tb.length, .slice (some ⟨g3, 0, none⟩) tc.length tc.length]) (by simp [results, Tryz.results88, go_sem, d0, d1, d2, d3]) rfl ⟨_, _, _, rfl, RF.1, RF.2.1, RF.2.2, GF⟩

set_option maxRecDepth 100000 in
set_option maxHeartbeats 800000 in
theorem eqSig_big (i : Int) (va vb vc ua ub uc : Value) (ta tb tc : List ByteArray) (w : World) (ha : RowT w va ta) (hb : RowT w vb tb) (hc : RowT w vc tc) (ga : RowT w ua ta) (gb : RowT w ub tb) (gc : RowT w uc tc) (la : ta.length ≤ 1048576) (lb : tb.length ≤ 1048576) (lc : tc.length ≤ 1048576) :
    Calls Tryz.prog 84 #[.agg #[.int .i64 i, va, vb, vc], .agg #[.int .i64 i, ua, ub, uc]] w fun e w' => e = .returned (.bool true) ∧ Below w.heap.size w w' := by
  have HR : Hid (RowT w va ta ∧ RowT w vb tb ∧ RowT w vc tc ∧ RowT w ua ta ∧ RowT w ub tb ∧ RowT w uc tc) := ⟨ha, hb, hc, ga, gb, gc⟩
  have HL : Hid (ta.length ≤ 1048576 ∧ tb.length ≤ 1048576 ∧ tc.length ≤ 1048576) := ⟨by omega, by omega, by omega⟩
  have hi : (i != i) = false := by simp
  have X1 := sig_new w i va vb vc
  have X2 := sig_new (w.alloc (sigBlk i va vb vc)) i ua ub uc
  have X1' := (Below.heap_alloc (w.alloc (sigBlk i va vb vc)) (sigBlk i ua ub uc) w.heap.size (by rw [size_new]; omega)).trans X1
  rw [size_new] at X2
  have B0 : Below w.heap.size w ((w.alloc (sigBlk i va vb vc)).alloc (sigBlk i ua ub uc)) := (bel_new w _).trans ((bel_new _ _).mono (by rw [size_new]; omega))
  have HS : ((w.alloc (sigBlk i va vb vc)).alloc (sigBlk i ua ub uc)).heap.size = w.heap.size + 1 + 1 := by rw [size_new, size_new]
  obtain ⟨a1, c1, rfl⟩ := RowT.form ha
  obtain ⟨a2, c2, rfl⟩ := RowT.form hb
  obtain ⟨a3, c3, rfl⟩ := RowT.form hc
  obtain ⟨d1, f1, rfl⟩ := RowT.form ga
  obtain ⟨d2, f2, rfl⟩ := RowT.form gb
  obtain ⟨d3, f3, rfl⟩ := RowT.form gc
  have HX : Hid (∀ W, Below w.heap.size w W → Below (w.heap.size + 1 + 1) ((w.alloc (sigBlk i (.slice a1 ta.length c1) (.slice a2 tb.length c2) (.slice a3 tc.length c3))).alloc (sigBlk i (.slice d1 ta.length f1) (.slice d2 tb.length f2) (.slice d3 tc.length f3))) W →
      (W.heap[w.heap.size]? = some (.cells #[.int .i64 i, .slice a1 ta.length c1, .slice a2 tb.length c2, .slice a3 tc.length c3] 37 (0, 0)) ∧ W.heap[w.heap.size + 1]? = some (.cells #[.int .i64 i, .slice d1 ta.length f1, .slice d2 tb.length f2, .slice d3 tc.length f3] 37 (0, 0)))) := fun W _ hW => ⟨(hW.block _ (by omega)).trans X1', (hW.block _ (by omega)).trans X2⟩
  have HB : Hid (Below w.heap.size w ((w.alloc (sigBlk i (.slice a1 ta.length c1) (.slice a2 tb.length c2) (.slice a3 tc.length c3))).alloc (sigBlk i (.slice d1 ta.length f1) (.slice d2 tb.length f2) (.slice d3 tc.length f3))) ∧ ((w.alloc (sigBlk i (.slice a1 ta.length c1) (.slice a2 tb.length c2) (.slice a3 tc.length c3))).alloc (sigBlk i (.slice d1 ta.length f1) (.slice d2 tb.length f2) (.slice d3 tc.length f3))).heap.size = w.heap.size + 1 + 1) := ⟨B0, HS⟩
  clear X1 X1' X2 B0 HS ha hb hc ga gb gc la lb lc
  unfold sigBlk at HX HB
  go_enter Tryz.func84, Tryz.ntmps84
  go_wp2_with fail
  refine (eqStringS_same _ _ ta _ (HR.out.1.below HB.out.1) (HR.out.2.2.2.1.below HB.out.1) HL.out.1).mono ?_
  rintro e w1 ⟨rfl, b1⟩
  rw [HB.out.2] at b1
  have g1 := HB.out.1.trans (b1.mono (by omega))
  obtain ⟨z1, z2⟩ := HX.out w1 g1 b1
  have p1 := (blk_cell z1 2 (x := .slice a2 tb.length c2) rfl).1
  have p2 := (blk_cell z2 2 (x := .slice d2 tb.length f2) rfl).1
  have p3 := (blk_cell z1 3 (x := .slice a3 tc.length c3) rfl).1
  have p4 := (blk_cell z2 3 (x := .slice d3 tc.length f3) rfl).1
  have B1 : Hid (Below (w.heap.size + 1 + 1) _ w1 ∧ Below w.heap.size w w1 ∧ w.heap.size + 1 + 1 ≤ w1.heap.size) := ⟨b1, g1, by have := b1.size; rw [HB.out.2] at this; exact this⟩
  clear b1 g1 z1 z2
  go_wp2_with fail
  refine (eqStringS_same _ _ tb _ (HR.out.2.1.below B1.out.2.1) (HR.out.2.2.2.2.1.below B1.out.2.1) HL.out.2.1).mono ?_
  rintro e w2 ⟨rfl, b2⟩
  have g2 := B1.out.2.1.trans (b2.mono B1.out.2.1.size)
  have h2 := B1.out.1.trans (b2.mono B1.out.2.2)
  obtain ⟨z1, z2⟩ := HX.out w2 g2 h2
  clear p1 p2 p3 p4
  have p3 := (blk_cell z1 3 (x := .slice a3 tc.length c3) rfl).1
  have p4 := (blk_cell z2 3 (x := .slice d3 tc.length f3) rfl).1
  have B2 : Hid (Below w.heap.size w w2) := g2
  clear b2 g2 h2 z1 z2
  go_wp2_with fail
  refine (eqStringS_same _ _ tc _ (HR.out.2.2.1.below B2.out) (HR.out.2.2.2.2.2.below B2.out) HL.out.2.2).mono ?_
  rintro e w3 ⟨rfl, b3⟩
  have g3 := B2.out.trans (b3.mono B2.out.size)
  clear b3
  go_wp2_with fail
  go_ret
  exact ⟨rfl, g3⟩

end Go.Proofs.YtimmeclclilpdaaGreatDoor.Sz
