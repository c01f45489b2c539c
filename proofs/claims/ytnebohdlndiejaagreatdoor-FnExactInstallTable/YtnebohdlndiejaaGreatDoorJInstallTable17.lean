/- Texts put together: Mq, Sv, Um, Un, Uo, Uq. -/
import Derived.Test.YtnebohdlndiejaaGreatDoorTk
import Derived.Deep.RegionWith
import Derived.Test.YtnebohdlndiejaaGreatDoorJInstallTable10
/- The laws' helpers on texts: sized, copied, compared, marked. -/
namespace Go.Proofs.YtnebohdlndiejaaGreatDoor.Mk
open Go.RowKit Go.Proofs.YtnebohdlndiejaaGreatDoor.Sl Go.Proofs.YtnebohdlndiejaaGreatDoor.By Go.Proofs.YtnebohdlndiejaaGreatDoor.Ap Go.Proofs.YtnebohdlndiejaaGreatDoor.Tx

/-- The digits of a number, ahead of a text. -/
def mtGo : Nat → Nat → ByteArray → ByteArray
  | 0, _, s => s
  | f + 1, k, s => if k = 0 then s else mtGo f (k / 10) (strOfNums [48 + ((k % 10 : Nat) : Int)] ++ s)
def mtext (k : Nat) : ByteArray := (⟨#[109]⟩ : ByteArray) ++ mtGo (k + 1) k ⟨#[]⟩

set_option maxRecDepth 100000 in
set_option maxHeartbeats 400000 in
theorem markText_any (k : Nat) (w : World) (h0 : 0 < k) (h1 : k ≤ 10000000) :
    Calls Tryz.prog 53 #[.int .i64 k] w fun e w' => e = .returned (.string (mtext k)) ∧ Below w.heap.size w w' := by
  have h0' : ¬ (k : Int) ≤ 0 := by omega
  have h1' : (k : Int) ≤ 10000000 := by omega
  have HT : Hid (mtext k = (⟨#[109]⟩ : ByteArray) ++ mtGo (k + 1) k ⟨#[]⟩) := rfl
  go_enter Tryz.func53, Tryz.ntmps53
  go_wp2_with fail
  go_loopw [0, 3] (fun n s wr => ∃ (q f : Nat) (t : ByteArray), n = .int .i64 q ∧ s = .string t ∧ q ≤ 10000000 ∧ t.size + q ≤ 10000000 ∧ Hid (q < f ∧ mtGo f q t = mtGo (k + 1) k ⟨#[]⟩) ∧ Below w.heap.size w wr) (fun n _ _ => (intOf n).toNat)
  case atStart => exact ⟨k, k + 1, ⟨#[]⟩, rfl, rfl, by omega, by simp [ByteArray.size]; omega, ⟨by omega, rfl⟩, Below.refl _ _⟩
  case round =>
    obtain ⟨q, f, t, rfl, rfl, hq, hts, HF, hbel⟩ := hrel
    by_cases hz : 0 < q
    · have hz' : (0 : Int) < (q : Int) := by omega
      have hcv := By.run_convert_own (P := Tryz.prog) (wr.alloc (.cells #[.int .u8 (48 + (q : Int) % 10)] 5)) wr.heap.size 86 5 9 Tryz.underlying86 Tryz.underlying5 Tryz.underlying9 (.slice (some ⟨wr.heap.size, 0, none⟩) 1 1) [48 + (q : Int) % 10] (own_one 5 wr wr.heap.size (48 + (q : Int) % 10) (Nat.le_refl _))
      have hs1 : (strOfNums [48 + (q : Int) % 10]).size = 1 := by rw [strOfNums_size]; rfl
      have hsz : ¬ 9223372036854775807 < (strOfNums [48 + (q : Int) % 10]).size + t.size := by rw [hs1]; omega
      have HS1 : Hid ((strOfNums [48 + (q : Int) % 10]).size = 1) := hs1
      have HE : Hid (∃ f', q / 10 < f' ∧ mtGo f' (q / 10) (strOfNums [48 + (q : Int) % 10] ++ t) = mtGo (k + 1) k ⟨#[]⟩) := by
        obtain ⟨e1, e2⟩ := HF.out
        cases f with
        | zero => omega
        | succ f =>
          refine ⟨f, by omega, ?_⟩
          rw [← e2]
          show _ = if q = 0 then t else mtGo f (q / 10) (strOfNums [48 + ((q % 10 : Nat) : Int)] ++ t)
          rw [if_neg (by omega)]
          rfl
      clear hs1 HF
      go_wp2_with fail
      obtain ⟨f', e1, e2⟩ := HE.out
      exact ⟨⟨q / 10, f', strOfNums [48 + (q : Int) % 10] ++ t, by simp, rfl, by omega, by rw [ByteArray.size_append, HS1.out]; omega, ⟨e1, e2⟩, hbel.alloc hbel.size _⟩, by simp [intOf]; omega⟩
    · have hz0 : q = 0 := by omega
      have HE : Hid (mtGo (k + 1) k ⟨#[]⟩ = t) := by
        show _ = _
        obtain ⟨e1, e2⟩ := HF.out
        rw [← e2, hz0]
        cases f with
        | zero => rfl
        | succ f => rfl
      have hz' : ¬ (0 : Int) < (q : Int) := by omega
      have hz2 : ¬ 0 < q := hz
      have hsz2 : ¬ 9223372036854775807 < 1 + t.size := by omega
      have hsz3 : ¬ 9223372036854775807 < (⟨#[109]⟩ : ByteArray).size + t.size := hsz2
      clear hz0
      go_wp2
      go_ret
      exact ⟨ret_str (by rw [HT.out, HE.out]), hbel⟩

/-- Marked texts, from a on. -/
def tmarks (a n : Nat) : List ByteArray := (List.range n).map fun j => mtext (a + j)
theorem tmarks_length (a n : Nat) : (tmarks a n).length = n := by simp [tmarks]
theorem tmarks_at (a n j : Nat) (h : j < n) : tnth (tmarks a n) j = mtext (a + j) := by
  unfold tnth tmarks
  rw [List.getD_eq_getElem?_getD, List.getElem?_map, List.getElem?_range h]
  rfl
theorem kp_set {w : World} {g n : Nat} (j : Nat) (x : Value) : Kp w (w.setCell ⟨g, j, none⟩ x) (.slice (some ⟨g, 0, none⟩) n n) (.slice (some ⟨g, 0, none⟩) n n) :=
  Kp.of_grown ⟨rfl, rfl, rfl, by simp, fun k _ hk => Below.heap_setCell w ⟨g, j, none⟩ x k (fun e => hk (by rw [e]; rfl))⟩ (.inl rfl)
/-- A slice in a block of its own with room behind: its texts. -/
def RowG (w : World) (g n cap : Nat) (ts : List ByteArray) : Prop :=
  ∃ A : Array Value, w.heap[g]? = some (.cells A 9 (0, 0)) ∧ n ≤ A.size ∧ n ≤ cap ∧ ts.length = n ∧ ∀ j, j < n → A[j]? = some (.string (tnth ts j))
theorem RowG.row {w : World} {g n cap : Nat} {ts : List ByteArray} (h : RowG w g n cap ts) : RowT w (.slice (some ⟨g, 0, none⟩) n cap) ts := by
  obtain ⟨A, hg, hs, hc, rfl, hA⟩ := h
  refine ⟨_, _, rfl, .inr ⟨g, 0, rfl, hc, (Array.getElem?_eq_some_iff.1 hg).1, fun i hi => ?_⟩⟩
  rw [Nat.zero_add, Joins.cell_of_block hg i]
  exact hA i hi
theorem own_open {w : World} {B : Nat} {v : Value} {ts : List ByteArray} (h : OwnS w B v ts) : (v = .slice none 0 0 ∧ ts = []) ∨ ∃ g cap, v = .slice (some ⟨g, 0, none⟩) ts.length cap ∧ B ≤ g ∧ RowG w g ts.length cap ts := by
  have hrow := h.row
  obtain ⟨hl, h⟩ := h
  rcases h with ⟨rfl, h0⟩ | ⟨g, cap, cur, rfl, hB, hg, hc, _, hs, htk⟩
  · exact .inl ⟨rfl, List.length_eq_zero_iff.1 h0⟩
  · refine .inr ⟨g, cap, rfl, hB, cur, hg, by omega, hc, rfl, fun i hi => ?_⟩
    have h1 : (cur.toList.take (ts.length * 1))[i]? = some (.string (tnth ts i)) := by
      rw [htk, List.getElem?_map, List.getElem?_eq_getElem hi]
      simp [tnth, List.getD_eq_getElem?_getD, List.getElem?_eq_getElem hi]
    rw [List.getElem?_take] at h1
    split at h1
    · simpa using h1
    · cases h1
set_option maxHeartbeats 400000 in
theorem markNil_any (a : Nat) (w : World) : Calls Tryz.prog 24 #[.slice none 0 0, .int .i64 a] w fun e w' => e = .returned (.int .i64 (a : Int)) ∧ w' = w := by
  go_enter Tryz.func24, Tryz.ntmps24
  go_wp2_with fail
  go_loopw [1, 5] (fun k i wr => k = .int .i64 (a : Int) ∧ i = .int .i64 0 ∧ wr = w) (fun _ _ _ => 0)
  case atStart => exact ⟨rfl, rfl, rfl⟩
  case round =>
    obtain ⟨rfl, rfl, rfl⟩ := hrel
    go_wp2
    go_ret
    exact ⟨rfl, rfl⟩
set_option maxHeartbeats 800000 in
theorem markG_any (g n cap : Nat) (ts : List ByteArray) (a : Nat) (w : World) (h : RowG w g n cap ts) (ha : 0 < a) (ha2 : a ≤ 100) (hl : n ≤ 2000000) :
    Calls Tryz.prog 24 #[.slice (some ⟨g, 0, none⟩) n cap, .int .i64 a] w fun e w' => e = .returned (.int .i64 ((a : Int) + n)) ∧ RowG w' g n cap (tmarks a n) ∧ Kp w w' (.slice (some ⟨g, 0, none⟩) n n) (.slice (some ⟨g, 0, none⟩) n n) := by
  obtain ⟨A0, hg, hsz, hc, _, _⟩ := h
  have HG : Hid (w.heap[g]? = some (.cells A0 9 (0, 0)) ∧ n ≤ A0.size) := ⟨hg, hsz⟩
  have HC : Hid (n ≤ cap) := hc
  clear hg hsz hc
  go_enter Tryz.func24, Tryz.ntmps24
  go_wp2_with fail
  go_loopw [1, 5] (fun k i wr => ∃ (q : Nat) (A : Array Value), q ≤ n ∧ k = .int .i64 ((a : Int) + (q : Int)) ∧ i = .int .i64 q ∧ Hid (wr.heap[g]? = some (.cells A 9 (0, 0)) ∧ n ≤ A.size ∧ ∀ j, j < q → A[j]? = some (.string (mtext (a + j)))) ∧ Kp w wr (.slice (some ⟨g, 0, none⟩) n n) (.slice (some ⟨g, 0, none⟩) n n)) (fun _ i _ => n - (intOf i).toNat)
  case atStart => exact ⟨0, A0, by omega, by simp, rfl, ⟨HG.out.1, HG.out.2, fun j hj => absurd hj (by omega)⟩, Kp.refl _ _⟩
  case round =>
    obtain ⟨q, A, hq, rfl, rfl, HA, hk⟩ := hrel
    by_cases hlt : q < n
    · have EA : Hid ((a : Int) + (q : Int) = ((a + q : Nat) : Int)) := by show _ = _; omega
      go_wp2_with fail
      rw [EA.out]
      refine (markText_any (a + q) _ (by omega) (by omega)).mono ?_
      rintro e w2 ⟨rfl, b2⟩
      have hg2 : w2.heap[g]? = some (.cells A 9 (0, 0)) := (b2.block g (Array.getElem?_eq_some_iff.1 HA.out.1).1).trans HA.out.1
      have hqA : q < A.size := Nat.lt_of_lt_of_le hlt HA.out.2.1
      obtain ⟨x, hx⟩ : ∃ x, A[q]? = some x := ⟨_, Array.getElem?_eq_getElem hqA⟩
      obtain ⟨c1, f1⟩ := blk_cell hg2 q hx
      have hg3 := blk_set hg2 q (.string (mtext (a + q)))
      have HA' : Hid ((w2.setCell ⟨g, q, none⟩ (.string (mtext (a + q)))).heap[g]? = some (.cells (A.setIfInBounds q (.string (mtext (a + q)))) 9 (0, 0)) ∧ n ≤ (A.setIfInBounds q (.string (mtext (a + q)))).size ∧ ∀ j, j < q + 1 → (A.setIfInBounds q (.string (mtext (a + q))))[j]? = some (.string (mtext (a + j)))) := by
        refine ⟨hg3, by rw [Array.size_setIfInBounds]; exact HA.out.2.1, fun j hj => ?_⟩
        rw [Array.getElem?_setIfInBounds]
        by_cases e : q = j
        · subst e
          rw [if_pos rfl, if_pos hqA]
        · rw [if_neg e]
          exact HA.out.2.2 j (by omega)
      have hk2 := (hk.trans (Kp.of_below _ b2)).trans (kp_set (w := w2) (g := g) (n := n) q (.string (mtext (a + q))))
      clear hg2 hg3 hx b2 hqA
      go_wp2_with fail
      exact ⟨⟨q + 1, _, by omega, by go_num, by go_num, HA'.out, hk2⟩, by simp [intOf]; omega⟩
    · obtain rfl : q = n := by omega
      go_wp2
      go_ret
      refine ⟨rfl, ⟨A, HA.out.1, HA.out.2.1, HC.out, tmarks_length _ _, fun j hj => ?_⟩, hk⟩
      rw [tmarks_at a q j hj]
      exact HA.out.2.2 j hj

/-- The marks of a list of the call's own. -/
theorem markOwn_any (v : Value) (ts : List ByteArray) (a B n : Nat) (w : World) (h : OwnS w B v ts) (hn : ts.length = n) (ha : 0 < a) (ha2 : a ≤ 100) (hl : n ≤ 1000) :
    Calls Tryz.prog 24 #[v, .int .i64 a] w fun e w' => e = .returned (.int .i64 ((a + n : Nat) : Int)) ∧ RowT w' v (tmarks a n) ∧ Kp w w' v v := by
  subst hn
  rcases own_open h with ⟨rfl, rfl⟩ | ⟨g, cap, rfl, _, hg⟩
  · refine (markNil_any a w).mono ?_
    rintro e w' ⟨rfl, e2⟩
    rw [e2]
    exact ⟨rfl, ⟨none, 0, rfl, .inl rfl⟩, Kp.refl _ _⟩
  · refine (markG_any g ts.length cap ts a w hg ha ha2 (by omega)).mono ?_
    rintro e w' ⟨rfl, h1, h2⟩
    refine ⟨by rw [Int.natCast_add], h1.row, ?_⟩
    exact ⟨h2.os, h2.tape, h2.output, h2.size, h2.block, h2.away⟩

set_option maxHeartbeats 400000 in
theorem eqStringS_same (v u : Value) (ts : List ByteArray) (w : World) (h : RowT w v ts) (g : RowT w u ts) (hl : ts.length ≤ 1048576) :
    Calls Tryz.prog 23 #[v, u] w fun e w' => e = .returned (.bool true) ∧ Below w.heap.size w w' := by
  obtain ⟨a, cap, rfl, h⟩ := h
  obtain ⟨a', cap', rfl, g⟩ := g
  have hne : ((ts.length : Int) != (ts.length : Int)) = false := by simp
  go_enter Tryz.func23, Tryz.ntmps23
  go_wp2_with fail
  go_loopw [5] (fun i wr => ∃ k : Nat, k ≤ ts.length ∧ i = .int .i64 k ∧ ∃ n, wr = w.drewN n) (fun i _ => ts.length - (intOf i).toNat)
  case atStart => exact ⟨0, by omega, rfl, 0, rfl⟩
  case round =>
    obtain ⟨k, hk, rfl, n, rfl⟩ := hrel
    by_cases hlt : k < ts.length
    · rcases h with h | ⟨b, off, rfl, hc, hb, hcell⟩
      · exact absurd hlt (by rw [h]; simp)
      rcases g with g | ⟨b', off', rfl, hc', hb', gcell⟩
      · exact absurd hlt (by rw [g]; simp)
      have hc1 := hcell k hlt
      have hc2 := gcell k hlt
      have hp0 : (0 : Int) ≤ (k : Int) := by omega
      have hp1 : (k : Int) < (ts.length : Int) := by omega
      clear hcell gcell
      go_wp2
      go_quiet (fail)
      go_wp2
      exact ⟨⟨k + 1, by omega, by go_num, n + nq, rfl⟩, by simp [intOf]; omega⟩
    · go_wp2
      go_ret
      exact ⟨rfl, ⟨rfl, rfl, rfl, Nat.le_refl _, fun _ _ => rfl⟩⟩
end Go.Proofs.YtnebohdlndiejaaGreatDoor.Mk

/- The laws' helpers on texts: sized, copied; marks on a copy. -/
namespace Go.Proofs.YtnebohdlndiejaaGreatDoor.Sv
open Go.RowKit Go.Proofs.YtnebohdlndiejaaGreatDoor.Sl Go.Proofs.YtnebohdlndiejaaGreatDoor.By Go.Proofs.YtnebohdlndiejaaGreatDoor.Ap Go.Proofs.YtnebohdlndiejaaGreatDoor.Tx Go.Proofs.YtnebohdlndiejaaGreatDoor.Mk

theorem retI {a b : Int} (h : a = b) : Ending.returned (.int .i64 a) = .returned (.int .i64 b) := by rw [h]
theorem andThen {B : Nat} {W w1 w2 : World} (h : Below B W w1) (hB : B ≤ W.heap.size) (h2 : Below w1.heap.size w1 w2) : Below B W w2 := h.trans (h2.mono (Nat.le_trans hB h.size))

/-- Texts whose sizes add up. -/
def szT (ts : List ByteArray) (k : Nat) : Nat := ((ts.take k).map ByteArray.size).sum
theorem szT_succ (ts : List ByteArray) (k : Nat) (h : k < ts.length) : szT ts (k + 1) = szT ts k + (tnth ts k).size := by
  unfold szT tnth
  rw [List.take_add_one, List.getElem?_eq_getElem h, Option.toList_some, List.map_append, List.sum_append, List.getD_eq_getElem?_getD, List.getElem?_eq_getElem h]
  simp only [List.map_cons, List.map_nil, List.sum_cons, List.sum_nil, Option.getD_some, Nat.add_zero]
theorem szT_mono (ts : List ByteArray) {a b : Nat} (h : a ≤ b) : szT ts a ≤ szT ts b := by
  induction b with
  | zero => have : a = 0 := by omega
            subst this; exact Nat.le_refl _
  | succ b ih =>
    by_cases e : a = b + 1
    · subst e; exact Nat.le_refl _
    · have := ih (by omega)
      by_cases hb : b < ts.length
      · rw [szT_succ ts b hb]; omega
      · have e1 : szT ts (b + 1) = szT ts b := by unfold szT; rw [List.take_of_length_le (by omega), List.take_of_length_le (by omega)]
        rw [e1]; exact this

def tot (ts : List ByteArray) : Nat := ts.length + szT ts ts.length
def lfT (left : Int) (ts : List ByteArray) : Int := if left < (tot ts : Int) then -1 else left - (tot ts : Int)
set_option maxRecDepth 100000 in
set_option maxHeartbeats 400000 in
theorem szStringS_any (v : Value) (ts : List ByteArray) (left : Int) (w : World) (h : RowT w v ts) (hl : ts.length ≤ maxLen) (hs : ∀ t ∈ ts, t.size ≤ maxLen) (h0 : 0 ≤ left) (h1 : left ≤ 1048576) :
    Calls Tryz.prog 18 #[v, .int .i64 left] w fun e w' => e = .returned (.int .i64 (lfT left ts)) ∧ w = w' := by
  obtain ⟨a, cap, rfl, h⟩ := h
  unfold maxLen at hl
  by_cases hb : left < (ts.length : Int)
  · have HE : Hid (lfT left ts = -1) := by show _ = _; unfold lfT tot; rw [if_pos (by omega)]
    have hb' : left - (ts.length : Int) < 0 := by omega
    go_enter Tryz.func18, Tryz.ntmps18
    go_wp2_with fail
    go_ret
    exact ⟨retI HE.out.symm, rfl⟩
  have hb' : ¬ left - (ts.length : Int) < 0 := by omega
  have HT : Hid (∀ i, i < ts.length → (tnth ts i).size ≤ maxLen) := fun i hi => hs _ (tnth_mem hi)
  clear hs
  go_enter Tryz.func18, Tryz.ntmps18
  go_wp2_with fail
  go_loop [1, 5] (fun m i => ∃ k : Nat, k ≤ ts.length ∧ i = .int .i64 k ∧ m = .int .i64 (left - (ts.length : Int) - (szT ts k : Int)) ∧ (ts.length : Int) + (szT ts k : Int) ≤ left) (fun _ i => ts.length - (intOf i).toNat)
  case atStart => exact ⟨0, by omega, rfl, by simp [szT], by simp [szT]; omega⟩
  case round =>
    obtain ⟨k, hk, rfl, rfl, hle⟩ := hrel
    by_cases hlt : k < ts.length
    · rcases h with h | ⟨b, off, rfl, hc, hbw, hcell⟩
      · exact absurd hlt (by rw [h]; simp)
      have hc1 := hcell k hlt
      have hm := HT.out k hlt
      unfold maxLen at hm
      have HS : Hid (szT ts (k + 1) = szT ts k + (tnth ts k).size) := szT_succ ts k hlt
      have HM : Hid (szT ts (k + 1) ≤ szT ts ts.length) := szT_mono ts hlt
      have hkl : (k : Int) < (ts.length : Int) := by omega
      generalize szT ts k = q at hle HS
      generalize tnth ts k = t at hc1 hm HS
      clear hcell
      by_cases hbig : left < (ts.length : Int) + (q : Int) + (t.size : Int)
      · have hbig' : left - (ts.length : Int) - (q : Int) - (t.size : Int) < 0 := by omega
        have HE : Hid (lfT left ts = -1) := by show _ = _; unfold lfT tot; rw [if_pos (by have := HS.out; have := HM.out; omega)]
        go_wp2_with fail
        go_ret
        exact ⟨retI HE.out.symm, rfl⟩
      · have hbig' : ¬ left - (ts.length : Int) - (q : Int) - (t.size : Int) < 0 := by omega
        go_wp2_with fail
        go_round
        case rel => exact ⟨k + 1, by omega, by go_num, val_eq (by rw [HS.out]; omega), by rw [HS.out]; omega⟩
        case measure => simp [intOf]; omega
    · obtain rfl : k = ts.length := by omega
      have HE : Hid (lfT left ts = left - (ts.length : Int) - (szT ts ts.length : Int)) := by show _ = _; unfold lfT tot; rw [if_neg (by omega)]; omega
      go_wp2_with fail
      go_ret
      exact ⟨retI HE.out.symm, rfl⟩

/-- A slice of texts in a block of its own, behind B. -/
def OwnT (w : World) (B : Nat) (v : Value) (ts : List ByteArray) : Prop :=
  ∃ g A, v = .slice (some ⟨g, 0, none⟩) ts.length ts.length ∧ B ≤ g ∧ w.heap[g]? = some (.cells A 9 (0, 0)) ∧ A.size = ts.length ∧ ∀ j, j < ts.length → A[j]? = some (.string (tnth ts j))
theorem OwnT.row {w : World} {B : Nat} {v : Value} {ts : List ByteArray} (h : OwnT w B v ts) : RowT w v ts := by
  obtain ⟨g, A, rfl, hB, hg, hs, hA⟩ := h
  refine ⟨_, _, rfl, .inr ⟨g, 0, rfl, Nat.le_refl _, (Array.getElem?_eq_some_iff.1 hg).1, fun i hi => ?_⟩⟩
  rw [Nat.zero_add, Joins.cell_of_block hg i]
  exact hA i hi
theorem OwnT.below {w w' : World} {B : Nat} {v : Value} {ts : List ByteArray} (h : OwnT w B v ts) (hb : Below w.heap.size w w') : OwnT w' B v ts := by
  obtain ⟨g, A, rfl, hB, hg, hs, hA⟩ := h
  exact ⟨g, A, rfl, hB, (hb.block g (Array.getElem?_eq_some_iff.1 hg).1).trans hg, hs, hA⟩

def Copied (ts : List ByteArray) (k : Nat) (A : Array Value) : Prop := A.size = ts.length ∧ ∀ j, j < k → A[j]? = some (.string (tnth ts j))
set_option maxHeartbeats 400000 in
theorem toStringS_any (v : Value) (ts : List ByteArray) (w : World) (h : RowT w v ts) (hl : ts.length ≤ 1048576) :
    Calls Tryz.prog 21 #[v] w fun e w' => ∃ v', e = .returned v' ∧ OwnT w' w.heap.size v' ts ∧ Below w.heap.size w w' := by
  obtain ⟨a, cap, rfl, h⟩ := h
  obtain ⟨i0, hi, hz0, hz1, hz2⟩ := info_parts info9
  have hmk := run_make (P := Tryz.prog) w 49 9 i0 (.string ⟨#[]⟩) Tryz.underlying49 hi hz0 .i64 .i64 (ts.length : Int) (ts.length : Int) (by omega) (by omega) (by rw [hz2]; omega) (by omega)
  have hA0 : Copied ts 0 (madeCells (Value.string ⟨#[]⟩).cells ((ts.length : Int).toNat * i0.size)) := ⟨by rw [hz1]; simp [madeCells, Value.cells], fun j hj => absurd hj (by omega)⟩
  generalize madeCells (Value.string ⟨#[]⟩).cells ((ts.length : Int).toNat * i0.size) = A0 at hmk hA0
  rw [Int.toNat_natCast] at hmk
  go_enter Tryz.func21, Tryz.ntmps21
  go_wp2_with fail
  clear hmk
  go_loopw [4] (fun i wr => ∃ k : Nat, ∃ A : Array Value, k ≤ ts.length ∧ i = .int .i64 k ∧ wr = w.alloc (.cells A 9) ∧ Copied ts k A) (fun i _ => ts.length - (intOf i).toNat)
  case atStart => exact ⟨0, A0, by omega, rfl, rfl, hA0⟩
  case round =>
    clear hA0
    obtain ⟨k, A, hk, rfl, rfl, hA⟩ := hrel
    by_cases hlt : k < ts.length
    · rcases h with h | ⟨b, off, rfl, hc, hb, hcell⟩
      · exact absurd hlt (by rw [h]; simp)
      have hc1 := hcell k hlt
      have hne : b ≠ w.heap.size := by omega
      obtain ⟨x, hx⟩ : ∃ x, A[k]? = some x := ⟨_, Array.getElem?_eq_getElem (by rw [hA.1]; exact hlt)⟩
      clear hcell
      have hA' : Copied ts (k + 1) (A.setIfInBounds k (.string (tnth ts k))) := by
        refine ⟨by rw [Array.size_setIfInBounds]; exact hA.1, fun j hj => ?_⟩
        rw [Array.getElem?_setIfInBounds]
        by_cases e : k = j
        · subst e
          rw [if_pos rfl, if_pos (by rw [hA.1]; exact hlt)]
        · rw [if_neg e]
          exact hA.2 j (by omega)
      go_wp2
      go_roundw
      case rel => exact ⟨k + 1, _, by omega, by go_num, rfl, hA'⟩
      case measure => simp [intOf]; omega
    · obtain rfl : k = ts.length := by omega
      go_wp2
      go_ret
      exact ⟨_, rfl, ⟨w.heap.size, A, rfl, Nat.le_refl _, blk_new _ _ _, hA.1, hA.2⟩, (Below.refl _ _).alloc (Nat.le_refl _) _⟩


theorem lfT_neg {ts : List ByteArray} : lfT 1048576 ts < 0 ↔ 1048576 < tot ts := by
  unfold lfT
  split <;> omega
theorem each_small {ts : List ByteArray} (h : ¬ 1048576 < tot ts) : ts.length ≤ 1048576 ∧ ∀ t ∈ ts, t.size ≤ 1048576 := by
  unfold tot at h
  refine ⟨by omega, fun t ht => ?_⟩
  obtain ⟨i, hi, rfl⟩ := List.getElem_of_mem ht
  have h1 := szT_succ ts i hi
  have h2 := szT_mono ts (show i + 1 ≤ ts.length by omega)
  have e : tnth ts i = ts[i] := by unfold tnth; rw [List.getD_eq_getElem?_getD, List.getElem?_eq_getElem hi]; rfl
  rw [e] at h1
  omega
/-- Marks on a copy. -/
theorem markT_any (v : Value) (ts : List ByteArray) (a B : Nat) (w : World) (h : OwnT w B v ts) (ha : 0 < a) (ha2 : a ≤ 100) (hl : ts.length ≤ 2000000) :
    Calls Tryz.prog 24 #[v, .int .i64 a] w fun e w' => e = .returned (.int .i64 ((a : Int) + ts.length)) ∧ Kp w w' v v := by
  obtain ⟨g, A, rfl, hB, hg, hs, hA⟩ := h
  refine (markG_any g ts.length ts.length ts a w ⟨A, hg, by omega, Nat.le_refl _, rfl, hA⟩ ha ha2 hl).mono ?_
  rintro e w' ⟨rfl, h1, h2⟩
  exact ⟨rfl, h2⟩
theorem OwnT.lt {w : World} {B : Nat} {v : Value} {ts : List ByteArray} (h : OwnT w B v ts) : ∀ g, v.ownBlock = some g → B ≤ g ∧ g < w.heap.size := by
  obtain ⟨g, A, rfl, hB, hg, _⟩ := h
  intro g' hg'
  simp [Value.ownBlock] at hg'
  subst hg'
  exact ⟨hB, (Array.getElem?_eq_some_iff.1 hg).1⟩
theorem kp_below {w w' : World} {B : Nat} {v : Value} (h : ∀ g, v.ownBlock = some g → B ≤ g) (hk : Kp w w' v v) (hB : B ≤ w.heap.size) : Below B w w' :=
  ⟨hk.os, hk.tape, hk.output, hk.size, fun k hlt => hk.block k (by omega) (fun e => by have := h k e.symm; omega)⟩
theorem ownS_kp {w w' : World} {B : Nat} {v u : Value} {ts : List ByteArray} (h : OwnS w B v ts) (hk : Kp w w' u u) (hu : ∀ g, u.ownBlock = some g → g < B) : OwnS w' B v ts := by
  obtain ⟨hl, h⟩ := h
  refine ⟨hl, ?_⟩
  rcases h with h | ⟨g, cap, cur, hv, hB, hgb, h⟩
  · exact .inl h
  · exact .inr ⟨g, cap, cur, hv, hB, (hk.block g (Array.getElem?_eq_some_iff.1 hgb).1 (fun e => by have := hu g e.symm; omega)).trans hgb, h⟩
end Go.Proofs.YtnebohdlndiejaaGreatDoor.Sv

/- The laws' marks on a table in memory of one's own: written, and held. -/
namespace Go.Proofs.YtnebohdlndiejaaGreatDoor.Um
open Go.RowKit Go.Proofs.YtnebohdlndiejaaGreatDoor.Sl Go.Proofs.YtnebohdlndiejaaGreatDoor.By Go.Proofs.YtnebohdlndiejaaGreatDoor.Ap Go.Proofs.YtnebohdlndiejaaGreatDoor.Tb Go.Proofs.YtnebohdlndiejaaGreatDoor.Tw
open Go.Proofs.YtnebohdlndiejaaGreatDoor.Mw (mtext markText_any Wr Wr.lt Wr.below Wr.set Wr.cell MkW MkW.below set_same set_off markOwnW_any heldOwnW_any markNilW_any heldNilW_any Mid Mid.below)
open Go.Proofs.YtnebohdlndiejaaGreatDoor.Ur (Mem Apart)
open Go.Proofs.YtnebohdlndiejaaGreatDoor.Wa (OwnW OwnS)
open Go.Proofs.YtnebohdlndiejaaGreatDoor.Lo (LkA uV OwnL own_block kind_ne)
open Go.Proofs.YtnebohdlndiejaaGreatDoor.Tx (blk_cell blk_set blk_far bel_new size_new)

/-- Cells that bear numbers one after the other. -/
def Up (W : World) (g a N : Nat) : Prop := ∀ i, i < N → W.cell? ⟨g, i, none⟩ = some (.int .i64 ((a + i : Nat) : Int))
theorem Up.below {W W' : World} {g a N : Nat} (h : Up W g a N) (hg : g < W.heap.size) (hb : Below W.heap.size W W') : Up W' g a N := fun i hi => (hb.cell (p := ⟨g, i, none⟩) hg).trans (h i hi)
theorem Up.next {W : World} {g a N M : Nat} (h : Up W g a N) (hw : Wr W g M) (hN : N < M) : Up (W.setCell ⟨g, N, none⟩ (.int .i64 ((a + N : Nat) : Int))) g a (N + 1) := fun i hi => by
  by_cases e : i = N
  · subst e; exact set_same hw hN _
  · rw [set_off (fun h => e h.symm)]; exact h i (by omega)
set_option maxRecDepth 100000 in
set_option maxHeartbeats 1600000 in
theorem markSeens_any (g n cap a : Nat) (w : World) (h : Wr w g (n * 6)) (hcap : n ≤ cap) (hn : n ≤ 1000) (ha : a ≤ 1000000) :
    Calls Tryz.prog 41 #[.slice (some ⟨g, 0, none⟩) n cap, .int .i64 a] w fun e w' => e = .returned (.int .i64 ((a + n * 6 : Nat) : Int)) ∧ Up w' g a (n * 6) ∧ Mid g (g + 1) w w' := by
  have H : Hid (Wr w g (n * 6)) := h
  clear h
  go_enter Tryz.func41, Tryz.ntmps41
  go_wp2_with fail
  go_loopw [1, 5] (fun k i wr => ∃ q : Nat, q ≤ n ∧ k = .int .i64 ((a + q * 6 : Nat) : Int) ∧ i = .int .i64 q ∧ Hid (Wr wr g (n * 6) ∧ Mid g (g + 1) w wr ∧ Up wr g a (q * 6))) (fun _ i _ => n - (intOf i).toNat)
  case atStart => exact ⟨0, by omega, by simp, rfl, H.out, Mid.refl _ _ _, fun i hi => absurd hi (by omega)⟩
  case round =>
    obtain ⟨q, hq, rfl, rfl, HA⟩ := hrel
    by_cases hlt : q < n
    · obtain ⟨⟨x0, c0⟩, f0⟩ := HA.out.1.cell (j := q * 6) (by omega)
      obtain ⟨⟨x1, c1⟩, f1⟩ := HA.out.1.cell (j := q * 6 + 1) (by omega)
      obtain ⟨⟨x2, c2⟩, f2⟩ := HA.out.1.cell (j := q * 6 + 2) (by omega)
      obtain ⟨⟨x3, c3⟩, f3⟩ := HA.out.1.cell (j := q * 6 + 3) (by omega)
      obtain ⟨⟨x4, c4⟩, f4⟩ := HA.out.1.cell (j := q * 6 + 4) (by omega)
      obtain ⟨⟨x5, c5⟩, f5⟩ := HA.out.1.cell (j := q * 6 + 5) (by omega)
      have U0 := HA.out.2.2.next HA.out.1 (show q * 6 < n * 6 by omega)
      have W0 := HA.out.1.set g (q * 6) (.int .i64 ((a + q * 6 : Nat) : Int))
      have U1 := U0.next W0 (by omega)
      have W1 := W0.set g (q * 6 + 1) (.int .i64 ((a + (q * 6 + 1) : Nat) : Int))
      have U2 := U1.next W1 (by omega)
      have W2 := W1.set g (q * 6 + 1 + 1) (.int .i64 ((a + (q * 6 + 1 + 1) : Nat) : Int))
      have U3 := U2.next W2 (by omega)
      have W3 := W2.set g (q * 6 + 1 + 1 + 1) (.int .i64 ((a + (q * 6 + 1 + 1 + 1) : Nat) : Int))
      have U4 := U3.next W3 (by omega)
      have W4 := W3.set g (q * 6 + 1 + 1 + 1 + 1) (.int .i64 ((a + (q * 6 + 1 + 1 + 1 + 1) : Nat) : Int))
      have U5 := U4.next W4 (by omega)
      have W5 := W4.set g (q * 6 + 1 + 1 + 1 + 1 + 1) (.int .i64 ((a + (q * 6 + 1 + 1 + 1 + 1 + 1) : Nat) : Int))
      have M5 := HA.out.2.1.trans ((Mid.set (w := wr) (Nat.le_refl g) (Nat.lt_succ_self g) (q * 6) (.int .i64 ((a + q * 6 : Nat) : Int))).trans ((Mid.set (Nat.le_refl g) (Nat.lt_succ_self g) (q * 6 + 1) (.int .i64 ((a + (q * 6 + 1) : Nat) : Int))).trans ((Mid.set (Nat.le_refl g) (Nat.lt_succ_self g) (q * 6 + 1 + 1) (.int .i64 ((a + (q * 6 + 1 + 1) : Nat) : Int))).trans ((Mid.set (Nat.le_refl g) (Nat.lt_succ_self g) (q * 6 + 1 + 1 + 1) (.int .i64 ((a + (q * 6 + 1 + 1 + 1) : Nat) : Int))).trans ((Mid.set (Nat.le_refl g) (Nat.lt_succ_self g) (q * 6 + 1 + 1 + 1 + 1) (.int .i64 ((a + (q * 6 + 1 + 1 + 1 + 1) : Nat) : Int))).trans (Mid.set (Nat.le_refl g) (Nat.lt_succ_self g) (q * 6 + 1 + 1 + 1 + 1 + 1) (.int .i64 ((a + (q * 6 + 1 + 1 + 1 + 1 + 1) : Nat) : Int))))))))
      have HF : Hid (Wr _ g (n * 6) ∧ Mid g (g + 1) w _ ∧ Up _ g a (q * 6 + 1 + 1 + 1 + 1 + 1 + 1)) := ⟨W5, M5, U5⟩
      have e1 : ((a + (q * 6 + 1) : Nat) : Int) = ((a + q * 6 : Nat) : Int) + 1 := by omega
      have e2 : ((a + (q * 6 + 1 + 1) : Nat) : Int) = ((a + q * 6 : Nat) : Int) + 1 + 1 := by omega
      have e3 : ((a + (q * 6 + 1 + 1 + 1) : Nat) : Int) = ((a + q * 6 : Nat) : Int) + 1 + 1 + 1 := by omega
      have e4 : ((a + (q * 6 + 1 + 1 + 1 + 1) : Nat) : Int) = ((a + q * 6 : Nat) : Int) + 1 + 1 + 1 + 1 := by omega
      have e5 : ((a + (q * 6 + 1 + 1 + 1 + 1 + 1) : Nat) : Int) = ((a + q * 6 : Nat) : Int) + 1 + 1 + 1 + 1 + 1 := by omega
      rw [e1, e2, e3, e4, e5] at HF
      clear U0 U1 U2 U3 U4 U5 W0 W1 W2 W3 W4 W5 M5 HA e1 e2 e3 e4 e5
      have hb : ((a + q * 6 : Nat) : Int) ≤ 2000000 := by omega
      have hb0 : (0 : Int) ≤ ((a + q * 6 : Nat) : Int) := by omega
      have HEN : Hid (((a + (q + 1) * 6 : Nat) : Int) = ((a + q * 6 : Nat) : Int) + 1 + 1 + 1 + 1 + 1 + 1 ∧ (q + 1) * 6 = q * 6 + 1 + 1 + 1 + 1 + 1 + 1) := ⟨by omega, by omega⟩
      generalize ((a + q * 6 : Nat) : Int) = z at HF hb hb0 HEN ⊢
      go_wp2_with fail
      exact ⟨⟨q + 1, by omega, by rw [HEN.out.1], by go_num, by rw [HEN.out.2]; exact HF⟩, by simp [intOf]; omega⟩
    · obtain rfl : q = n := by omega
      go_wp2_with fail
      go_ret
      exact ⟨rfl, HA.out.2.2, HA.out.2.1⟩
set_option maxRecDepth 100000 in
set_option maxHeartbeats 1600000 in
theorem heldSeens_any (g n cap a : Nat) (w : World) (h : Up w g a (n * 6)) (hcap : n ≤ cap) (hn : n ≤ 1000) (ha : a ≤ 1000000) :
    Calls Tryz.prog 55 #[.slice (some ⟨g, 0, none⟩) n cap, .int .i64 a] w fun e w' => e = .returned (.int .i64 ((a + n * 6 : Nat) : Int)) ∧ w = w' := by
  have H : Hid (Up w g a (n * 6)) := h
  clear h
  go_enter Tryz.func55, Tryz.ntmps55
  go_wp2_with fail
  go_loop [1, 5] (fun k i => ∃ q : Nat, q ≤ n ∧ k = .int .i64 ((a + q * 6 : Nat) : Int) ∧ i = .int .i64 q) (fun _ i => n - (intOf i).toNat)
  case atStart => exact ⟨0, by omega, by simp, rfl⟩
  case round =>
    obtain ⟨q, hq, rfl, rfl⟩ := hrel
    by_cases hlt : q < n
    · have c0 := H.out (q * 6) (by omega)
      have c1 := H.out (q * 6 + 1) (by omega)
      have c2 := H.out (q * 6 + 2) (by omega)
      have c3 := H.out (q * 6 + 3) (by omega)
      have c4 := H.out (q * 6 + 4) (by omega)
      have c5 := H.out (q * 6 + 5) (by omega)
      rw [show ((a + (q * 6 + 1) : Nat) : Int) = ((a + q * 6 : Nat) : Int) + 1 by omega] at c1
      rw [show ((a + (q * 6 + 2) : Nat) : Int) = ((a + q * 6 : Nat) : Int) + 1 + 1 by omega] at c2
      rw [show ((a + (q * 6 + 3) : Nat) : Int) = ((a + q * 6 : Nat) : Int) + 1 + 1 + 1 by omega] at c3
      rw [show ((a + (q * 6 + 4) : Nat) : Int) = ((a + q * 6 : Nat) : Int) + 1 + 1 + 1 + 1 by omega] at c4
      rw [show ((a + (q * 6 + 5) : Nat) : Int) = ((a + q * 6 : Nat) : Int) + 1 + 1 + 1 + 1 + 1 by omega] at c5
      have hb : ((a + q * 6 : Nat) : Int) ≤ 2000000 := by omega
      have hb0 : (0 : Int) ≤ ((a + q * 6 : Nat) : Int) := by omega
      have HEN : Hid (((a + (q + 1) * 6 : Nat) : Int) = ((a + q * 6 : Nat) : Int) + 1 + 1 + 1 + 1 + 1 + 1) := by show _ = _; omega
      generalize ((a + q * 6 : Nat) : Int) = z at c0 c1 c2 c3 c4 c5 hb hb0 HEN ⊢
      have n0 : (z != z) = false := by simp
      have n1 : (z + 1 != z + 1) = false := by simp
      have n2 : (z + 1 + 1 != z + 1 + 1) = false := by simp
      have n3 : (z + 1 + 1 + 1 != z + 1 + 1 + 1) = false := by simp
      have n4 : (z + 1 + 1 + 1 + 1 != z + 1 + 1 + 1 + 1) = false := by simp
      have n5 : (z + 1 + 1 + 1 + 1 + 1 != z + 1 + 1 + 1 + 1 + 1) = false := by simp
      go_wp2_with fail
      exact ⟨⟨q + 1, by omega, by rw [HEN.out], by go_num⟩, by simp [intOf]; omega⟩
    · obtain rfl : q = n := by omega
      go_wp2_with fail
      go_ret
      exact ⟨rfl, rfl⟩
end Go.Proofs.YtnebohdlndiejaaGreatDoor.Um

/- The laws' marks on locks in memory of one's own. -/
namespace Go.Proofs.YtnebohdlndiejaaGreatDoor.Um
open Go.RowKit Go.Proofs.YtnebohdlndiejaaGreatDoor.Sl Go.Proofs.YtnebohdlndiejaaGreatDoor.By Go.Proofs.YtnebohdlndiejaaGreatDoor.Ap Go.Proofs.YtnebohdlndiejaaGreatDoor.Tb Go.Proofs.YtnebohdlndiejaaGreatDoor.Tw
open Go.Proofs.YtnebohdlndiejaaGreatDoor.Mw (mtext markText_any Wr Wr.lt Wr.below Wr.set Wr.cell MkW MkW.below set_same set_off markOwnW_any heldOwnW_any markNilW_any heldNilW_any Mid Mid.below)
open Go.Proofs.YtnebohdlndiejaaGreatDoor.Ur (Mem Apart)
open Go.Proofs.YtnebohdlndiejaaGreatDoor.Wa (OwnW OwnS)
open Go.Proofs.YtnebohdlndiejaaGreatDoor.Lo (LkA uV OwnL own_block kind_ne)
open Go.Proofs.YtnebohdlndiejaaGreatDoor.Tx (blk_cell blk_set blk_far bel_new size_new)

def off (ms : List LkA) (a : Nat) : Nat → Nat
  | 0 => a
  | j + 1 => off ms a j + 4 + (ms.getD j (default, none, 0)).1.ws.length * 2
theorem off_succ {ms : List LkA} {a j : Nat} {m : LkA} (h : ms[j]? = some m) : off ms a (j + 1) = off ms a j + 4 + m.1.ws.length * 2 := by
  show _ + _ + _ = _
  rw [List.getD_eq_getElem?_getD, h]
  rfl
theorem off_le {ms : List LkA} {a : Nat} (hw : ∀ m ∈ ms, m.1.ws.length ≤ 1000) : ∀ j, j ≤ ms.length → a ≤ off ms a j ∧ off ms a j ≤ a + j * 2004
  | 0, _ => by simp [off]
  | j + 1, hj => by
    obtain ⟨m, hm⟩ := Tw.get_at (show j < ms.length by omega)
    have ih := off_le (a := a) hw j (by omega)
    have := hw m (Tw.mem_at hm)
    rw [off_succ hm]
    omega
structure Mt (W : World) (gl : Nat) (ms : List LkA) (a k : Nat) : Prop where
  lb : Wr W gl (ms.length * 5)
  u : ∀ j m, ms[j]? = some m → W.cell? ⟨gl, j * 5 + 4, none⟩ = some (uV m)
  wr : ∀ j m, k ≤ j → ms[j]? = some m → m.1.ws.length = 0 ∨ ∃ g, m.2.1 = some ⟨g, 0, none⟩ ∧ g ≠ gl ∧ m.1.ws.length ≤ m.2.2 ∧ Wr W g (m.1.ws.length * 2)
  di : ∀ (i j : Nat) (x y : LkA), i < j → ms[i]? = some x → ms[j]? = some y → ∀ g, x.2.1 = some ⟨g, 0, none⟩ → y.2.1 ≠ some ⟨g, 0, none⟩
  dn : ∀ j m, j < k → ms[j]? = some m → (W.cell? ⟨gl, j * 5, none⟩ = some (.string (mtext (off ms a j))) ∧ W.cell? ⟨gl, j * 5 + 1, none⟩ = some (.int .i64 ((off ms a j : Nat) + 1)) ∧ W.cell? ⟨gl, j * 5 + 2, none⟩ = some (.int .i64 ((off ms a j : Nat) + 1 + 1)) ∧ W.cell? ⟨gl, j * 5 + 3, none⟩ = some (.int .i64 ((off ms a j : Nat) + 1 + 1 + 1))) ∧ (m.1.ws.length = 0 ∨ ∃ g, m.2.1 = some ⟨g, 0, none⟩ ∧ g ≠ gl ∧ m.1.ws.length ≤ m.2.2 ∧ g < W.heap.size ∧ MkW W g (off ms a j + 4) m.1.ws.length)
theorem Mt.below {W W' : World} {gl : Nat} {ms : List LkA} {a k : Nat} (h : Mt W gl ms a k) (hb : Below W.heap.size W W') : Mt W' gl ms a k :=
  ⟨h.lb.below hb, fun j m hj => (hb.cell (p := ⟨gl, _, none⟩) h.lb.lt).trans (h.u j m hj), fun j m hk hj => (h.wr j m hk hj).imp id fun ⟨g, h1, h2, h3, h4⟩ => ⟨g, h1, h2, h3, h4.below hb⟩, h.di, fun j m hk hj => by
    obtain ⟨⟨c0, c1, c2, c3⟩, hw⟩ := h.dn j m hk hj
    exact ⟨⟨(hb.cell (p := ⟨gl, _, none⟩) h.lb.lt).trans c0, (hb.cell (p := ⟨gl, _, none⟩) h.lb.lt).trans c1, (hb.cell (p := ⟨gl, _, none⟩) h.lb.lt).trans c2, (hb.cell (p := ⟨gl, _, none⟩) h.lb.lt).trans c3⟩, hw.imp id fun ⟨g, h1, h2, h3, h4, h5⟩ => ⟨g, h1, h2, h3, Nat.lt_of_lt_of_le h4 hb.size, h5.below h4 hb⟩⟩⟩
theorem MkW.far {W : World} {g a q p i : Nat} {v : Value} (h : MkW W g a q) (hne : g ≠ p) : MkW (W.setCell ⟨p, i, none⟩ v) g a q := fun j hj =>
  ⟨(World.cell?_of_block (a := ⟨g, _, none⟩) (blk_far hne i v)).trans (h j hj).1, (World.cell?_of_block (a := ⟨g, _, none⟩) (blk_far hne i v)).trans (h j hj).2⟩
theorem Mt.set {W : World} {gl : Nat} {ms : List LkA} {a k : Nat} (h : Mt W gl ms a k) (i : Nat) (hi : i < 4) (v : Value) : Mt (W.setCell ⟨gl, k * 5 + i, none⟩ v) gl ms a k :=
  ⟨h.lb.set _ _ _, fun j m hj => (set_off (by omega) v).trans (h.u j m hj), fun j m hk hj => (h.wr j m hk hj).imp id fun ⟨g, h1, h2, h3, h4⟩ => ⟨g, h1, h2, h3, h4.set _ _ _⟩, h.di, fun j m hk hj => by
    obtain ⟨⟨c0, c1, c2, c3⟩, hw⟩ := h.dn j m hk hj
    exact ⟨⟨(set_off (by omega) v).trans c0, (set_off (by omega) v).trans c1, (set_off (by omega) v).trans c2, (set_off (by omega) v).trans c3⟩, hw.imp id fun ⟨g, h1, h2, h3, h4, h5⟩ => ⟨g, h1, h2, h3, by simpa using h4, MkW.far h5 h2⟩⟩⟩
/-- What a mark on locks keeps. -/
structure Cg (gl : Nat) (ms : List LkA) (w w' : World) : Prop where
  os : w'.os = w.os
  tape : w'.tape = w.tape
  output : w'.output = w.output
  size : w.heap.size ≤ w'.heap.size
  block : ∀ k, k < w.heap.size → k ≠ gl → (∀ m ∈ ms, m.2.1 ≠ some ⟨k, 0, none⟩) → w'.heap[k]? = w.heap[k]?
theorem Cg.refl (gl : Nat) (ms : List LkA) (w : World) : Cg gl ms w w := ⟨rfl, rfl, rfl, Nat.le_refl _, fun _ _ _ _ => rfl⟩
theorem Cg.below {gl : Nat} {ms : List LkA} {w w1 w2 : World} (h : Cg gl ms w w1) (hb : Below w1.heap.size w1 w2) : Cg gl ms w w2 :=
  ⟨hb.os.trans h.os, hb.tape.trans h.tape, hb.output.trans h.output, Nat.le_trans h.size hb.size, fun k hk h1 h2 => (hb.block k (Nat.lt_of_lt_of_le hk h.size)).trans (h.block k hk h1 h2)⟩
theorem Cg.set {gl : Nat} {ms : List LkA} {w w1 : World} (h : Cg gl ms w w1) (i : Nat) (v : Value) : Cg gl ms w (w1.setCell ⟨gl, i, none⟩ v) :=
  ⟨h.os, h.tape, h.output, by simpa using h.size, fun k hk h1 h2 => (blk_far h1 i v).trans (h.block k hk h1 h2)⟩
theorem Cg.mid {gl g : Nat} {ms : List LkA} {w w1 w2 : World} {m : LkA} (h : Cg gl ms w w1) (hm : m ∈ ms) (hg : m.2.1 = some ⟨g, 0, none⟩) (hb : Mid g (g + 1) w1 w2) : Cg gl ms w w2 :=
  ⟨hb.os.trans h.os, hb.tape.trans h.tape, hb.output.trans h.output, Nat.le_trans h.size hb.size, fun k hk h1 h2 => (hb.block k (Nat.lt_of_lt_of_le hk h.size) (by have : k ≠ g := fun e => h2 m hm (by rw [hg, e]); omega)).trans (h.block k hk h1 h2)⟩
/-- One lock more is marked: its own cells, then those that wait. -/
theorem Mt.stepN {W : World} {gl : Nat} {ms : List LkA} {a k : Nat} {m : LkA} (h : Mt W gl ms a k) (hm : ms[k]? = some m) (h0 : m.1.ws.length = 0)
    (c0 : W.cell? ⟨gl, k * 5, none⟩ = some (.string (mtext (off ms a k)))) (c1 : W.cell? ⟨gl, k * 5 + 1, none⟩ = some (.int .i64 ((off ms a k : Nat) + 1))) (c2 : W.cell? ⟨gl, k * 5 + 2, none⟩ = some (.int .i64 ((off ms a k : Nat) + 1 + 1))) (c3 : W.cell? ⟨gl, k * 5 + 3, none⟩ = some (.int .i64 ((off ms a k : Nat) + 1 + 1 + 1))) : Mt W gl ms a (k + 1) :=
  ⟨h.lb, h.u, fun j x hk hj => h.wr j x (by omega) hj, h.di, fun j x hk hj => by
    by_cases e : j = k
    · subst e
      rw [hm] at hj
      cases hj
      exact ⟨⟨c0, c1, c2, c3⟩, .inl h0⟩
    · exact h.dn j x (by omega) hj⟩
theorem Mt.stepS {W W' : World} {gl g : Nat} {ms : List LkA} {a k : Nat} {m : LkA} (h : Mt W gl ms a k) (hm : ms[k]? = some m) (hg : m.2.1 = some ⟨g, 0, none⟩) (hne : g ≠ gl) (hc : m.1.ws.length ≤ m.2.2) (hlt : g < W.heap.size) (hb : Mid g (g + 1) W W') (hk : MkW W' g (off ms a k + 4) m.1.ws.length)
    (c0 : W.cell? ⟨gl, k * 5, none⟩ = some (.string (mtext (off ms a k)))) (c1 : W.cell? ⟨gl, k * 5 + 1, none⟩ = some (.int .i64 ((off ms a k : Nat) + 1))) (c2 : W.cell? ⟨gl, k * 5 + 2, none⟩ = some (.int .i64 ((off ms a k : Nat) + 1 + 1))) (c3 : W.cell? ⟨gl, k * 5 + 3, none⟩ = some (.int .i64 ((off ms a k : Nat) + 1 + 1 + 1))) : Mt W' gl ms a (k + 1) := by
  have hl := h.lb.lt
  have kb : ∀ x, x < W.heap.size → x ≠ g → W'.heap[x]? = W.heap[x]? := fun x hx hn => hb.block x hx (by omega)
  have kc : ∀ x i v, x < W.heap.size → x ≠ g → W.cell? ⟨x, i, none⟩ = some v → W'.cell? ⟨x, i, none⟩ = some v := fun x i v hx hn hv => (World.cell?_of_block (a := ⟨x, i, none⟩) (kb x hx hn)).trans hv
  have kw : ∀ x n, x ≠ g → Wr W x n → Wr W' x n := fun x n hn hw => by
    obtain ⟨A, t, h1, h2⟩ := hw
    exact ⟨A, t, (kb x (Array.getElem?_eq_some_iff.1 h1).1 hn).trans h1, h2⟩
  refine ⟨kw gl _ (Ne.symm hne) h.lb, fun j x hj => kc gl _ _ hl (Ne.symm hne) (h.u j x hj), fun j x hk' hj => (h.wr j x (by omega) hj).imp id fun ⟨g', h1, h2, h3, h4⟩ => ⟨g', h1, h2, h3, kw g' _ (fun e => h.di k j m x (by omega) hm hj g hg (by rw [h1, e])) h4⟩, h.di, fun j x hk' hj => ?_⟩
  by_cases e : j = k
  · subst e
    rw [hm] at hj
    cases hj
    exact ⟨⟨kc gl _ _ hl (Ne.symm hne) c0, kc gl _ _ hl (Ne.symm hne) c1, kc gl _ _ hl (Ne.symm hne) c2, kc gl _ _ hl (Ne.symm hne) c3⟩, .inr ⟨g, hg, hne, hc, Nat.lt_of_lt_of_le hlt hb.size, hk⟩⟩
  · obtain ⟨⟨d0, d1, d2, d3⟩, hw⟩ := h.dn j x (by omega) hj
    refine ⟨⟨kc gl _ _ hl (Ne.symm hne) d0, kc gl _ _ hl (Ne.symm hne) d1, kc gl _ _ hl (Ne.symm hne) d2, kc gl _ _ hl (Ne.symm hne) d3⟩, hw.imp id fun ⟨g', h1, h2, h3, h4, h5⟩ => ⟨g', h1, h2, h3, Nat.lt_of_lt_of_le h4 hb.size, fun q hq => ?_⟩⟩
    have hn : g' ≠ g := fun e => h.di j k x m (by omega) hj hm g' h1 (by rw [hg, e])
    exact ⟨kc g' _ _ h4 hn (h5 q hq).1, kc g' _ _ h4 hn (h5 q hq).2⟩
set_option maxRecDepth 100000 in
set_option maxHeartbeats 3200000 in
theorem markLocks_any (gl cap : Nat) (ms : List LkA) (a : Nat) (w : World) (h : Mt w gl ms a 0) (hn : ms.length ≤ 1000) (hw : ∀ m ∈ ms, m.1.ws.length ≤ 1000) (ha : 0 < a) (ha2 : a ≤ 1000) :
    Calls Tryz.prog 40 #[.slice (some ⟨gl, 0, none⟩) ms.length cap, .int .i64 a] w fun e w' => e = .returned (.int .i64 (off ms a ms.length : Nat)) ∧ Mt w' gl ms a ms.length ∧ Cg gl ms w w' := by
  have H : Hid (Mt w gl ms a 0) := h
  have HO : Hid (∀ j, j ≤ ms.length → a ≤ off ms a j ∧ off ms a j ≤ a + j * 2004) := off_le hw
  have HW : Hid (∀ m ∈ ms, m.1.ws.length ≤ 1000) := hw
  clear h hw
  go_enter Tryz.func40, Tryz.ntmps40
  go_wp2_with fail
  go_loopw [1, 5] (fun k i wr => ∃ q : Nat, q ≤ ms.length ∧ k = .int .i64 (off ms a q : Nat) ∧ i = .int .i64 q ∧ Hid (Mt wr gl ms a q ∧ Cg gl ms w wr)) (fun _ i _ => ms.length - (intOf i).toNat)
  case atStart => exact ⟨0, by omega, rfl, rfl, H.out, Cg.refl _ _ _⟩
  case round =>
    obtain ⟨q, hq, rfl, rfl, HA⟩ := hrel
    by_cases hlt : q < ms.length
    · obtain ⟨m, hm⟩ := Tw.get_at hlt
      have ho := HO.out q hq
      have HM : Hid (ms[q]? = some m) := hm
      have HES : Hid (off ms a (q + 1) = off ms a q + 4 + m.1.ws.length * 2) := off_succ hm
      have HWM : Hid (m.1.ws.length ≤ 1000) := HW.out m (Tw.mem_at hm)
      have HTX : Hid (∀ W, Calls Tryz.prog 53 #[.int .i64 (off ms a q : Nat)] W fun e w' => e = .returned (.string (mtext (off ms a q))) ∧ Below W.heap.size W w') := fun W => markText_any (off ms a q) W (by omega) (by omega)
      clear hm
      go_wp2_with fail
      refine (HTX.out _).mono ?_
      rintro e w2 ⟨rfl, b2⟩
      have HB : Hid (Mt w2 gl ms a q ∧ Cg gl ms w w2) := ⟨HA.out.1.below b2, HA.out.2.below b2⟩
      clear b2 HA
      obtain ⟨⟨x0, c0⟩, f0⟩ := HB.out.1.lb.cell (j := q * 5) (by omega)
      obtain ⟨⟨x1, c1⟩, f1⟩ := HB.out.1.lb.cell (j := q * 5 + 1) (by omega)
      obtain ⟨⟨x2, c2⟩, f2⟩ := HB.out.1.lb.cell (j := q * 5 + 2) (by omega)
      obtain ⟨⟨x3, c3⟩, f3⟩ := HB.out.1.lb.cell (j := q * 5 + 3) (by omega)
      have c4 := HB.out.1.u q m HM.out
      obtain ⟨o, HOO⟩ : ∃ o, Hid (off ms a q = o) := ⟨_, rfl⟩
      obtain ⟨mt, HMT⟩ : ∃ mt, Hid (mtext (off ms a q) = mt) := ⟨_, rfl⟩
      rw [HMT.out]
      rw [HOO.out] at ho ⊢
      have HC : Hid (Mt ((((w2.setCell ⟨gl, q * 5, none⟩ (.string mt)).setCell ⟨gl, q * 5 + 1, none⟩ (.int .i64 ((o : Int) + 1))).setCell ⟨gl, q * 5 + 2, none⟩ (.int .i64 ((o : Int) + 1 + 1))).setCell ⟨gl, q * 5 + 3, none⟩ (.int .i64 ((o : Int) + 1 + 1 + 1))) gl ms a q ∧ Cg gl ms w ((((w2.setCell ⟨gl, q * 5, none⟩ (.string mt)).setCell ⟨gl, q * 5 + 1, none⟩ (.int .i64 ((o : Int) + 1))).setCell ⟨gl, q * 5 + 2, none⟩ (.int .i64 ((o : Int) + 1 + 1))).setCell ⟨gl, q * 5 + 3, none⟩ (.int .i64 ((o : Int) + 1 + 1 + 1)))
          ∧ (((((w2.setCell ⟨gl, q * 5, none⟩ (.string mt)).setCell ⟨gl, q * 5 + 1, none⟩ (.int .i64 ((o : Int) + 1))).setCell ⟨gl, q * 5 + 2, none⟩ (.int .i64 ((o : Int) + 1 + 1))).setCell ⟨gl, q * 5 + 3, none⟩ (.int .i64 ((o : Int) + 1 + 1 + 1))).cell? ⟨gl, q * 5, none⟩ = some (.string mt) ∧ ((((w2.setCell ⟨gl, q * 5, none⟩ (.string mt)).setCell ⟨gl, q * 5 + 1, none⟩ (.int .i64 ((o : Int) + 1))).setCell ⟨gl, q * 5 + 2, none⟩ (.int .i64 ((o : Int) + 1 + 1))).setCell ⟨gl, q * 5 + 3, none⟩ (.int .i64 ((o : Int) + 1 + 1 + 1))).cell? ⟨gl, q * 5 + 1, none⟩ = some (.int .i64 ((o : Int) + 1)) ∧ ((((w2.setCell ⟨gl, q * 5, none⟩ (.string mt)).setCell ⟨gl, q * 5 + 1, none⟩ (.int .i64 ((o : Int) + 1))).setCell ⟨gl, q * 5 + 2, none⟩ (.int .i64 ((o : Int) + 1 + 1))).setCell ⟨gl, q * 5 + 3, none⟩ (.int .i64 ((o : Int) + 1 + 1 + 1))).cell? ⟨gl, q * 5 + 2, none⟩ = some (.int .i64 ((o : Int) + 1 + 1)) ∧ ((((w2.setCell ⟨gl, q * 5, none⟩ (.string mt)).setCell ⟨gl, q * 5 + 1, none⟩ (.int .i64 ((o : Int) + 1))).setCell ⟨gl, q * 5 + 2, none⟩ (.int .i64 ((o : Int) + 1 + 1))).setCell ⟨gl, q * 5 + 3, none⟩ (.int .i64 ((o : Int) + 1 + 1 + 1))).cell? ⟨gl, q * 5 + 3, none⟩ = some (.int .i64 ((o : Int) + 1 + 1 + 1)))) := by
        have hl := HB.out.1.lb
        refine ⟨(((HB.out.1.set 0 (by decide) _).set 1 (by decide) _).set 2 (by decide) _).set 3 (by decide) _, (((HB.out.2.set _ _).set _ _).set _ _).set _ _, ?_, ?_, ?_, ?_⟩
        · rw [set_off (by omega), set_off (by omega), set_off (by omega)]; exact set_same hl (by omega) _
        · rw [set_off (by omega), set_off (by omega)]; exact set_same (hl.set _ _ _) (by omega) _
        · rw [set_off (by omega)]; exact set_same ((hl.set _ _ _).set _ _ _) (by omega) _
        · exact set_same (((hl.set _ _ _).set _ _ _).set _ _ _) (by omega) _
      clear HB
      have c4' : Hid (w2.cell? ⟨gl, q * 5 + 4, none⟩ = some (uV m)) := c4
      unfold uV at c4
      go_wp2_with fail
      generalize ((((w2.setCell ⟨gl, q * 5, none⟩ (.string mt)).setCell ⟨gl, q * 5 + 1, none⟩ (.int .i64 ((o : Int) + 1))).setCell ⟨gl, q * 5 + 2, none⟩ (.int .i64 ((o : Int) + 1 + 1))).setCell ⟨gl, q * 5 + 3, none⟩ (.int .i64 ((o : Int) + 1 + 1 + 1))) = w3 at HC ⊢
      have ER : Hid ((o : Int) + 1 + 1 + 1 + 1 = ((o + 4 : Nat) : Int)) := by show _ = _; omega
      rw [ER.out]
      have HMW : Hid (Calls Tryz.prog 77 #[.slice m.2.1 m.1.ws.length m.2.2, .int .i64 ((o + 4 : Nat) : Int)] w3 fun e w' => e = .returned (.int .i64 ((o + 4 + m.1.ws.length * 2 : Nat) : Int)) ∧ Mt w' gl ms a (q + 1) ∧ Cg gl ms w w') := by
        obtain ⟨hT, hC, d0, d1, d2, d3⟩ := HC.out
        rw [← HMT.out] at d0
        rw [← HOO.out] at d1 d2 d3
        by_cases h0 : m.1.ws.length = 0
        · rw [h0]
          refine (markNilW_any (o + 4) m.2.1 m.2.2 w3).mono ?_
          rintro e w' ⟨rfl, e2⟩
          rw [e2]
          exact ⟨by simp, hT.stepN HM.out h0 d0 d1 d2 d3, hC⟩
        · obtain ⟨g, hg, hne, hc, hwr⟩ := (hT.wr q m (Nat.le_refl _) HM.out).resolve_left h0
          rw [hg]
          refine (markOwnW_any g m.1.ws.length m.2.2 (o + 4) w3 hwr hc (by have := HWM.out; omega) (by omega)).mono ?_
          rintro e w' ⟨rfl, hk, hm⟩
          rw [← HOO.out] at hk
          exact ⟨rfl, hT.stepS HM.out hg hne hc hwr.lt hm hk d0 d1 d2 d3, hC.mid (Tw.mem_at HM.out) hg hm⟩
      clear HC c0 c1 c2 c3 c4 f0 f1 f2 f3 c4'
      refine HMW.out.mono ?_
      rintro e w4 ⟨rfl, m4, g4⟩
      have HF : Hid (Mt w4 gl ms a (q + 1) ∧ Cg gl ms w w4) := ⟨m4, g4⟩
      have HEQ : Hid (((o + 4 + m.1.ws.length * 2 : Nat) : Int) = (off ms a (q + 1) : Nat)) := by show _ = _; rw [HES.out, HOO.out]
      rw [HEQ.out]
      clear m4 g4 HMW
      go_wp2_with fail
      exact ⟨⟨q + 1, by omega, rfl, by go_num, HF⟩, by simp [intOf]; omega⟩
    · obtain rfl : q = ms.length := by omega
      go_wp2_with fail
      go_ret
      exact ⟨rfl, HA.out⟩
end Go.Proofs.YtnebohdlndiejaaGreatDoor.Um

/- The laws' marks on a table in memory of one's own: held; the table as a whole. -/
namespace Go.Proofs.YtnebohdlndiejaaGreatDoor.Um
open Go.RowKit Go.Proofs.YtnebohdlndiejaaGreatDoor.Sl Go.Proofs.YtnebohdlndiejaaGreatDoor.By Go.Proofs.YtnebohdlndiejaaGreatDoor.Ap Go.Proofs.YtnebohdlndiejaaGreatDoor.Tb Go.Proofs.YtnebohdlndiejaaGreatDoor.Tw
open Go.Proofs.YtnebohdlndiejaaGreatDoor.Mw (mtext markText_any Wr Wr.lt Wr.below Wr.set Wr.cell MkW MkW.below set_same set_off markOwnW_any heldOwnW_any markNilW_any heldNilW_any Mid Mid.below)
open Go.Proofs.YtnebohdlndiejaaGreatDoor.Ur (Mem Apart)
open Go.Proofs.YtnebohdlndiejaaGreatDoor.Wa (OwnW OwnS)
open Go.Proofs.YtnebohdlndiejaaGreatDoor.Lo (LkA uV OwnL own_block kind_ne clL atL)
open Go.Proofs.YtnebohdlndiejaaGreatDoor.Tx (blk_cell blk_set blk_far bel_new size_new)

set_option maxRecDepth 100000 in
set_option maxHeartbeats 3200000 in
theorem heldLocks_any (gl cap : Nat) (ms : List LkA) (a : Nat) (w : World) (h : Mt w gl ms a ms.length) (hn : ms.length ≤ 1000) (hw : ∀ m ∈ ms, m.1.ws.length ≤ 1000) (ha : 0 < a) (ha2 : a ≤ 1000) :
    Calls Tryz.prog 54 #[.slice (some ⟨gl, 0, none⟩) ms.length cap, .int .i64 a] w fun e w' => e = .returned (.int .i64 (off ms a ms.length : Nat)) ∧ Below w.heap.size w w' := by
  have H : Hid (Mt w gl ms a ms.length) := h
  have HO : Hid (∀ j, j ≤ ms.length → a ≤ off ms a j ∧ off ms a j ≤ a + j * 2004) := off_le hw
  have HW : Hid (∀ m ∈ ms, m.1.ws.length ≤ 1000) := hw
  clear h hw
  go_enter Tryz.func54, Tryz.ntmps54
  go_wp2_with fail
  go_loopw [1, 5] (fun k i wr => ∃ q : Nat, q ≤ ms.length ∧ k = .int .i64 (off ms a q : Nat) ∧ i = .int .i64 q ∧ Below w.heap.size w wr) (fun _ i _ => ms.length - (intOf i).toNat)
  case atStart => exact ⟨0, by omega, rfl, rfl, Below.refl _ _⟩
  case round =>
    obtain ⟨q, hq, rfl, rfl, hbel⟩ := hrel
    by_cases hlt : q < ms.length
    · obtain ⟨m, hm⟩ := Tw.get_at hlt
      have ho := HO.out q hq
      have HES : Hid (off ms a (q + 1) = off ms a q + 4 + m.1.ws.length * 2) := off_succ hm
      have HWM : Hid (m.1.ws.length ≤ 1000) := HW.out m (Tw.mem_at hm)
      have HTX : Hid (∀ W, Calls Tryz.prog 53 #[.int .i64 (off ms a q : Nat)] W fun e w' => e = .returned (.string (mtext (off ms a q))) ∧ Below W.heap.size W w') := fun W => markText_any (off ms a q) W (by omega) (by omega)
      have HCL : Hid (∀ W, Below w.heap.size w W → (W.cell? ⟨gl, q * 5, none⟩ = some (.string (mtext (off ms a q))) ∧ W.cell? ⟨gl, q * 5 + 1, none⟩ = some (.int .i64 ((off ms a q : Nat) + 1)) ∧ W.cell? ⟨gl, q * 5 + 2, none⟩ = some (.int .i64 ((off ms a q : Nat) + 1 + 1)) ∧ W.cell? ⟨gl, q * 5 + 3, none⟩ = some (.int .i64 ((off ms a q : Nat) + 1 + 1 + 1)) ∧ W.cell? ⟨gl, q * 5 + 4, none⟩ = some (.slice m.2.1 m.1.ws.length m.2.2))) := fun W hW => by
        have hT := H.out.below hW
        obtain ⟨⟨d0, d1, d2, d3⟩, _⟩ := hT.dn q m hlt hm
        exact ⟨d0, d1, d2, d3, hT.u q m hm⟩
      have HHW : Hid (∀ W, Below w.heap.size w W → Calls Tryz.prog 91 #[.slice m.2.1 m.1.ws.length m.2.2, .int .i64 ((off ms a q + 4 : Nat) : Int)] W fun e w' => e = .returned (.int .i64 ((off ms a (q + 1) : Nat) : Int)) ∧ w' = W) := fun W hW => by
        have hT := H.out.below hW
        obtain ⟨_, hk⟩ := hT.dn q m hlt hm
        rw [HES.out]
        by_cases h0 : m.1.ws.length = 0
        · rw [h0]
          refine (heldNilW_any (off ms a q + 4) m.2.1 m.2.2 W).mono ?_
          rintro e w' ⟨rfl, e2⟩
          exact ⟨by simp, e2⟩
        · obtain ⟨g, hg, hne, hc, hl, hk⟩ := hk.resolve_left h0
          rw [hg]
          exact heldOwnW_any g m.1.ws.length m.2.2 (off ms a q + 4) W hk hc (by have := HWM.out; omega) (by omega)
      have hnn : ¬ ((off ms a (q + 1) : Nat) : Int) < 0 := by omega
      obtain ⟨o, HOO⟩ : ∃ o, Hid (off ms a q = o) := ⟨_, rfl⟩
      obtain ⟨o2, HO2⟩ : ∃ o2, Hid (off ms a (q + 1) = o2) := ⟨_, rfl⟩
      obtain ⟨mt, HMT⟩ : ∃ mt, Hid (mtext (off ms a q) = mt) := ⟨_, rfl⟩
      rw [HMT.out] at HTX HCL
      rw [HOO.out] at ho HTX HCL HHW ⊢
      rw [HO2.out] at HHW hnn
      clear hm HES HWM
      have ER : Hid ((o : Int) + 1 + 1 + 1 + 1 = ((o + 4 : Nat) : Int)) := by show _ = _; omega
      have hne : (mt.toList == mt.toList) = true := by simp
      have n1 : (((o : Int) + 1) != (o : Int) + 1) = false := by simp
      have n2 : (((o : Int) + 1 + 1) != (o : Int) + 1 + 1) = false := by simp
      have n3 : (((o : Int) + 1 + 1 + 1) != (o : Int) + 1 + 1 + 1) = false := by simp
      have hp0 : (0 : Int) ≤ (q : Int) := by omega
      have hp1 : (q : Int) < (ms.length : Int) := by omega
      obtain ⟨hc0, _, _, _, _⟩ := HCL.out wr hbel
      go_wp2
      go_region_with (go_at_call 53; refine (HTX.out _).mono ?_; rintro e w2 ⟨rfl, b2⟩; have b3 : Below wr.heap.size wr w2 := (ordB rfl b2).1; have B2 : Below w.heap.size w w2 := hbel.trans (b3.mono hbel.size); obtain ⟨c0, c1, c2, c3, c4⟩ := HCL.out w2 B2; clear b2 b3)
      all_goals
        go_wp2_with fail
        rw [ER.out]
        refine (HHW.out _ B2).mono ?_
        rintro e w4 ⟨rfl, e4⟩
        rw [e4]
        go_wp2_with fail
        exact ⟨⟨q + 1, by omega, by rw [HO2.out], by go_num, B2⟩, by simp [intOf]; omega⟩
    · obtain rfl : q = ms.length := by omega
      go_wp2_with fail
      go_ret
      exact ⟨rfl, hbel⟩
end Go.Proofs.YtnebohdlndiejaaGreatDoor.Um

/- The laws' marks on a table in memory of one's own: the table as a whole. -/
namespace Go.Proofs.YtnebohdlndiejaaGreatDoor.Um
open Go.RowKit Go.Proofs.YtnebohdlndiejaaGreatDoor.Sl Go.Proofs.YtnebohdlndiejaaGreatDoor.By Go.Proofs.YtnebohdlndiejaaGreatDoor.Ap Go.Proofs.YtnebohdlndiejaaGreatDoor.Tb Go.Proofs.YtnebohdlndiejaaGreatDoor.Tw
open Go.Proofs.YtnebohdlndiejaaGreatDoor.Mw (mtext Wr Wr.lt Wr.below MkW Mid Mid.below)
open Go.Proofs.YtnebohdlndiejaaGreatDoor.Ur (Mem Apart)
open Go.Proofs.YtnebohdlndiejaaGreatDoor.Wa (OwnW OwnS)
open Go.Proofs.YtnebohdlndiejaaGreatDoor.Lo (LkA uV OwnL own_block kind_ne clL atL)
open Go.Proofs.YtnebohdlndiejaaGreatDoor.Tx (blk_cell blk_set blk_far bel_new size_new)

theorem nilL_mark (ad : Option Addr) (cap a : Nat) (w : World) : Calls Tryz.prog 40 #[.slice ad 0 cap, .int .i64 a] w fun e w' => e = .returned (.int .i64 (a : Int)) ∧ w' = w := by
  go_enter Tryz.func40, Tryz.ntmps40
  go_wp2_with fail
  go_loopw [1, 5] (fun k i wr => k = .int .i64 (a : Int) ∧ i = .int .i64 0 ∧ wr = w) (fun _ _ _ => 0)
  case atStart => exact ⟨rfl, rfl, rfl⟩
  case round =>
    obtain ⟨rfl, rfl, rfl⟩ := hrel
    go_wp2
    go_ret
    exact ⟨rfl, rfl⟩
theorem nilL_held (ad : Option Addr) (cap a : Nat) (w : World) : Calls Tryz.prog 54 #[.slice ad 0 cap, .int .i64 a] w fun e w' => e = .returned (.int .i64 (a : Int)) ∧ w' = w := by
  go_enter Tryz.func54, Tryz.ntmps54
  go_wp2_with fail
  go_loopw [1, 5] (fun k i wr => k = .int .i64 (a : Int) ∧ i = .int .i64 0 ∧ wr = w) (fun _ _ _ => 0)
  case atStart => exact ⟨rfl, rfl, rfl⟩
  case round =>
    obtain ⟨rfl, rfl, rfl⟩ := hrel
    go_wp2
    go_ret
    exact ⟨rfl, rfl⟩
theorem nilS_mark (ad : Option Addr) (cap a : Nat) (w : World) : Calls Tryz.prog 41 #[.slice ad 0 cap, .int .i64 a] w fun e w' => e = .returned (.int .i64 (a : Int)) ∧ w' = w := by
  go_enter Tryz.func41, Tryz.ntmps41
  go_wp2_with fail
  go_loopw [1, 5] (fun k i wr => k = .int .i64 (a : Int) ∧ i = .int .i64 0 ∧ wr = w) (fun _ _ _ => 0)
  case atStart => exact ⟨rfl, rfl, rfl⟩
  case round =>
    obtain ⟨rfl, rfl, rfl⟩ := hrel
    go_wp2
    go_ret
    exact ⟨rfl, rfl⟩
theorem nilS_held (ad : Option Addr) (cap a : Nat) (w : World) : Calls Tryz.prog 55 #[.slice ad 0 cap, .int .i64 a] w fun e w' => e = .returned (.int .i64 (a : Int)) ∧ w' = w := by
  go_enter Tryz.func55, Tryz.ntmps55
  go_wp2_with fail
  go_loopw [1, 5] (fun k i wr => k = .int .i64 (a : Int) ∧ i = .int .i64 0 ∧ wr = w) (fun _ _ _ => 0)
  case atStart => exact ⟨rfl, rfl, rfl⟩
  case round =>
    obtain ⟨rfl, rfl, rfl⟩ := hrel
    go_wp2
    go_ret
    exact ⟨rfl, rfl⟩
/-- Rows that may be marked. -/
theorem mt_of {W : World} {B a : Nat} {v2 v3 : Value} {ms : List LkA} {ss : List Sn} (h : Mem W B v2 v3 ms ss) (hne : ms.length ≠ 0) : ∃ gl cap, v2 = .slice (some ⟨gl, 0, none⟩) ms.length cap ∧ B ≤ gl ∧ (∃ c, W.heap[gl]? = some (.cells c 98 (0, 0))) ∧ Mt W gl ms a 0 := by
  obtain ⟨hl, hh⟩ := h.ol
  rcases hh with ⟨_, h0⟩ | ⟨g, cap, cur, rfl, hB, hg, hc, _, hs, htk⟩
  · exact absurd h0 hne
  refine ⟨g, cap, rfl, hB, ⟨cur, hg⟩, ⟨cur, _, hg, by rw [hs]; exact Nat.mul_le_mul_right 5 hc⟩, fun j m hj => ?_, fun j m _ hj => ?_, fun i j x y hij hi hj q hx hy => ?_, fun j m hk => absurd hk (by omega)⟩
  · rw [Joins.cell_of_block hg, ← Array.getElem?_toList]
    have h1 := atL ms j m 4 hj (by decide)
    have hlt := Tw.lt_at hj
    rw [← htk, List.getElem?_take, if_pos (by omega)] at h1
    rw [h1]
    rfl
  · have ho := h.ow m (Tw.mem_at hj)
    obtain ⟨_, hh⟩ := id ho
    rcases hh with ⟨e, h0⟩ | ⟨q, cap', cur', e, hB', hg', hc', _, hs', _⟩
    · exact .inl h0
    · unfold uV at e
      simp only [Value.slice.injEq, true_and] at e
      refine .inr ⟨q, e.1, fun e2 => ?_, by rw [e.2]; exact hc', ⟨cur', _, hg', by rw [hs']; exact Nat.mul_le_mul_right 2 hc'⟩⟩
      exact kind_ne hg' hg (by decide) e2
  · have hp := List.pairwise_iff_getElem.1 h.di i j (Tw.lt_at hi) (Tw.lt_at hj) hij
    rw [(List.getElem?_eq_some_iff.1 hi).2, (List.getElem?_eq_some_iff.1 hj).2] at hp
    exact hp q (by unfold uV; rw [hx]; rfl) (by unfold uV; rw [hy]; rfl)
/-- A table that bears marks. -/
def HeldT (W : World) (v2 v3 : Value) (ms : List LkA) (ss : List Sn) (a : Nat) : Prop :=
  (∃ ad cap, v2 = .slice ad ms.length cap ∧ (ms.length = 0 ∨ ∃ gl, ad = some ⟨gl, 0, none⟩ ∧ Mt W gl ms a ms.length)) ∧ ∃ ad cap, v3 = .slice ad ss.length cap ∧ (ss.length = 0 ∨ ∃ gs, ad = some ⟨gs, 0, none⟩ ∧ ss.length ≤ cap ∧ gs < W.heap.size ∧ Up W gs (off ms a ms.length) (ss.length * 6))
theorem HeldT.below {W W' : World} {v2 v3 : Value} {ms : List LkA} {ss : List Sn} {a : Nat} (h : HeldT W v2 v3 ms ss a) (hb : Below W.heap.size W W') : HeldT W' v2 v3 ms ss a := by
  obtain ⟨⟨a1, c1, e1, h1⟩, ⟨a2, c2, e2, h2⟩⟩ := h
  exact ⟨⟨a1, c1, e1, h1.imp id fun ⟨g, q1, q2⟩ => ⟨g, q1, q2.below hb⟩⟩, ⟨a2, c2, e2, h2.imp id fun ⟨g, q1, q2, q3, q4⟩ => ⟨g, q1, q2, Nat.lt_of_lt_of_le q3 hb.size, q4.below q3 hb⟩⟩⟩
theorem off_nil {ms : List LkA} {a : Nat} (h : ms.length = 0) : off ms a ms.length = a := by rw [h]; rfl
/-- Locks are marked. -/
theorem locks_mark {W : World} {B : Nat} {v2 v3 : Value} {ms : List LkA} {ss : List Sn} (h : Mem W B v2 v3 ms ss) (hn : ms.length ≤ 1000) (hw : ∀ m ∈ ms, m.1.ws.length ≤ 1000) :
    Calls Tryz.prog 40 #[v2, .int .i64 1] W fun e w' => e = .returned (.int .i64 (off ms 1 ms.length : Nat)) ∧ (∃ ad cap, v2 = .slice ad ms.length cap ∧ (ms.length = 0 ∨ ∃ gl, ad = some ⟨gl, 0, none⟩ ∧ Mt w' gl ms 1 ms.length)) ∧ W.heap.size ≤ w'.heap.size ∧ Below B W w' ∧ ∀ k, k < W.heap.size → (∀ c, W.heap[k]? ≠ some (.cells c 98 (0, 0))) → (∀ c, W.heap[k]? ≠ some (.cells c 101 (0, 0))) → w'.heap[k]? = W.heap[k]? := by
  by_cases h0 : ms.length = 0
  · obtain ⟨ad, cap, rfl⟩ := h.ol.slice
    rw [off_nil h0]
    rw [h0]
    refine (nilL_mark ad cap 1 W).mono ?_
    rintro e w' ⟨rfl, e2⟩
    rw [e2]
    exact ⟨rfl, ⟨ad, cap, rfl, .inl rfl⟩, Nat.le_refl _, Below.refl _ _, fun _ _ _ _ => rfl⟩
  · obtain ⟨gl, cap, rfl, hB, ⟨c, hg⟩, hT⟩ := mt_of (a := 1) h h0
    refine (markLocks_any gl cap ms 1 W hT hn hw (by decide) (by decide)).mono ?_
    rintro e w' ⟨rfl, m', g'⟩
    have key : ∀ m ∈ ms, ∀ k, m.2.1 = some ⟨k, 0, none⟩ → B ≤ k ∧ ∃ c, W.heap[k]? = some (.cells c 101 (0, 0)) := fun m hm k hk => by
      have hu : (uV m).ownBlock = some k := by unfold uV; rw [hk]; rfl
      exact ⟨((h.ow m hm).lt k hu).1, own_block (h.ow m hm) hu⟩
    refine ⟨rfl, ⟨_, cap, rfl, .inr ⟨gl, rfl, m'⟩⟩, g'.size, ⟨g'.os, g'.tape, g'.output, g'.size, fun k hk => ?_⟩, fun k hk h1 h2 => ?_⟩
    · by_cases hl : k < W.heap.size
      · exact g'.block k hl (by omega) fun m hm e => by have := (key m hm k e).1; omega
      · exact absurd hg (by rw [Array.getElem?_eq_none (by omega)]; simp)
    · exact g'.block k hk (fun e => h1 c (by rw [e]; exact hg)) fun m hm e => by
        obtain ⟨_, c', hc'⟩ := key m hm k e
        exact h2 c' hc'
theorem Mt.kept {W W' : World} {gl : Nat} {ms : List LkA} {a : Nat} (h : Mt W gl ms a ms.length) (hs : W.heap.size ≤ W'.heap.size) (hgl : W'.heap[gl]? = W.heap[gl]?) (hg : ∀ m ∈ ms, ∀ g, m.2.1 = some ⟨g, 0, none⟩ → g < W.heap.size → W'.heap[g]? = W.heap[g]?) : Mt W' gl ms a ms.length := by
  have kc : ∀ i v, W.cell? ⟨gl, i, none⟩ = some v → W'.cell? ⟨gl, i, none⟩ = some v := fun i v hv => (World.cell?_of_block (a := ⟨gl, i, none⟩) hgl).trans hv
  refine ⟨?_, fun j m hj => kc _ _ (h.u j m hj), fun j m hk hj => absurd (Tw.lt_at hj) (by omega), h.di, fun j m hk hj => ?_⟩
  · obtain ⟨A, t, h1, h2⟩ := h.lb
    exact ⟨A, t, hgl.trans h1, h2⟩
  · obtain ⟨⟨c0, c1, c2, c3⟩, hw⟩ := h.dn j m hk hj
    refine ⟨⟨kc _ _ c0, kc _ _ c1, kc _ _ c2, kc _ _ c3⟩, hw.imp id fun ⟨g, h1, h2, h3, h4, h5⟩ => ⟨g, h1, h2, h3, Nat.lt_of_lt_of_le h4 hs, fun q hq => ?_⟩⟩
    have hb := hg m (Tw.mem_at hj) g h1 h4
    exact ⟨(World.cell?_of_block (a := ⟨g, _, none⟩) hb).trans (h5 q hq).1, (World.cell?_of_block (a := ⟨g, _, none⟩) hb).trans (h5 q hq).2⟩
/-- Blocks that hold tables are as they were. -/
def TabK (w w' : World) : Prop := ∀ (k : Nat) (cs : Array Value), w.heap[k]? = some (.cells cs 36 (0, 0)) → w'.heap[k]? = some (.cells cs 36 (0, 0))
set_option maxRecDepth 100000 in
set_option maxHeartbeats 1600000 in
theorem markTable_any (tm nx : Int) (v2 v3 : Value) (ms : List LkA) (ss : List Sn) (B : Nat) (w : World) (h : Mem w B v2 v3 ms ss) (hB : B ≤ w.heap.size) (hn : ms.length ≤ 100) (hw : ∀ m ∈ ms, m.1.ws.length ≤ 1000) (hs : ss.length ≤ 100) :
    Calls Tryz.prog 13 #[tabV tm nx v2 v3, .int .i64 1] w fun e w' => e = .returned (.int .i64 ((off ms 1 ms.length + ss.length * 6 : Nat) : Int)) ∧ HeldT w' v2 v3 ms ss 1 ∧ Below B w w' ∧ TabK w w' := by
  have hoff := off_le (a := 1) hw ms.length (Nat.le_refl _)
  obtain ⟨wb, hwb⟩ : ∃ wb, wb = w.alloc (.cells #[.int .i64 tm, .int .i64 nx, v2, v3] 36) := ⟨_, rfl⟩
  have hbx : wb.heap[w.heap.size]? = some (.cells #[.int .i64 tm, .int .i64 nx, v2, v3] 36 (0, 0)) := by rw [hwb]; exact heap_alloc_new _ _
  have hbb : Below w.heap.size w wb := by rw [hwb]; exact bel_new _ _
  have hM : Mem wb B v2 v3 ms ss := h.kept fun g _ hg => hbb.block g hg
  have HAP : Hid (∀ g, v3.ownBlock = some g → v2.ownBlock ≠ some g ∧ ∀ m ∈ ms, m.2.1 ≠ some ⟨g, 0, none⟩) := fun g hg => by
    obtain ⟨c1, e1⟩ := own_block h.os hg
    refine ⟨fun e => ?_, fun m hm e => ?_⟩
    · obtain ⟨c2, e2⟩ := own_block h.ol e
      exact kind_ne e1 e2 (by decide) rfl
    · obtain ⟨c2, e2⟩ := own_block (h.ow m hm) (g := g) (by unfold uV; rw [e]; rfl)
      exact kind_ne e1 e2 (by decide) rfl
  have HL : Hid (Calls Tryz.prog 40 #[v2, .int .i64 1] wb fun e w' => e = .returned (.int .i64 (off ms 1 ms.length : Nat)) ∧ ((∃ ad cap, v2 = .slice ad ms.length cap ∧ (ms.length = 0 ∨ ∃ gl, ad = some ⟨gl, 0, none⟩ ∧ Mt w' gl ms 1 ms.length)) ∧ Below B w w' ∧ w'.cell? ⟨w.heap.size, 3, none⟩ = some v3 ∧ B ≤ w'.heap.size ∧ OwnS w' B v3 ss ∧ (∀ g, v3.ownBlock = some g → ∃ c, w'.heap[g]? = some (.cells c 105 (0, 0))) ∧ TabK w w')) := by
    refine (locks_mark hM (by omega) hw).mono ?_
    rintro e w' ⟨rfl, h1, h2, h3, h4⟩
    have hbz := (Array.getElem?_eq_some_iff.1 hbx).1
    have k1 := (h4 _ hbz (fun c e => kind_ne hbx e (by decide) rfl) (fun c e => kind_ne hbx e (by decide) rfl)).trans hbx
    have os : OwnS w' B v3 ss := hM.os.kept fun g hg => by
      obtain ⟨c1, e1⟩ := own_block hM.os hg
      exact h4 g (Array.getElem?_eq_some_iff.1 e1).1 (fun c e => kind_ne e1 e (by decide) rfl) (fun c e => kind_ne e1 e (by decide) rfl)
    exact ⟨rfl, h1, (hbb.mono hB).trans h3, (blk_cell k1 3 (x := v3) rfl).1, Nat.le_trans hB (Nat.le_trans hbb.size h2), os, fun g hg => own_block os hg, fun k cs hk => by
      have hk' := (hbb.block k (Array.getElem?_eq_some_iff.1 hk).1).trans hk
      exact (h4 k (Array.getElem?_eq_some_iff.1 hk').1 (fun c e => kind_ne hk' e (by decide) rfl) (fun c e => kind_ne hk' e (by decide) rfl)).trans hk'⟩
  have c2 := (blk_cell hbx 2 (x := v2) rfl).1
  have HS : Hid (∀ W : World, OwnS W B v3 ss → ∀ a : Nat, a ≤ 1000000 → Calls Tryz.prog 41 #[v3, .int .i64 a] W fun e w' => e = .returned (.int .i64 ((a + ss.length * 6 : Nat) : Int)) ∧ (∃ ad cap, v3 = .slice ad ss.length cap ∧ (ss.length = 0 ∨ ∃ gs, ad = some ⟨gs, 0, none⟩ ∧ ss.length ≤ cap ∧ gs < w'.heap.size ∧ Up w' gs a (ss.length * 6))) ∧ (∀ g, v3.ownBlock = some g → B ≤ g) ∧ W.heap.size ≤ w'.heap.size ∧ (w'.os = W.os ∧ w'.tape = W.tape ∧ w'.output = W.output) ∧ ∀ k, k < W.heap.size → some k ≠ v3.ownBlock → w'.heap[k]? = W.heap[k]?) := fun W os a ha => by
    have hlt := fun g hg => (os.lt g hg).1
    by_cases h0 : ss.length = 0
    · obtain ⟨ad, cap, rfl⟩ := os.slice
      rw [h0]
      refine (nilS_mark ad cap a W).mono ?_
      rintro e w' ⟨rfl, e2⟩
      rw [e2]
      exact ⟨by simp, ⟨ad, cap, rfl, .inl rfl⟩, fun g hg => hlt g (by rw [h0]; exact hg), Nat.le_refl _, ⟨rfl, rfl, rfl⟩, fun _ _ _ => rfl⟩
    · obtain ⟨_, hh⟩ := id os
      rcases hh with ⟨_, e0⟩ | ⟨g, cap, cur, rfl, hB', hg, hc, _, hsz, _⟩
      · exact absurd e0 h0
      refine (markSeens_any g ss.length cap a W ⟨cur, _, hg, by rw [hsz]; exact Nat.mul_le_mul_right 6 hc⟩ hc (by omega) ha).mono ?_
      rintro e w' ⟨rfl, hu, hm⟩
      refine ⟨rfl, ⟨_, cap, rfl, .inr ⟨g, rfl, hc, Nat.lt_of_lt_of_le (Array.getElem?_eq_some_iff.1 hg).1 hm.size, hu⟩⟩, hlt, hm.size, ⟨hm.os, hm.tape, hm.output⟩, fun k hk hn => hm.block k hk ?_⟩
      have : k ≠ g := fun e => hn (by rw [e]; rfl)
      omega
  obtain ⟨a2, l2, rfl⟩ := h.ol.slice
  obtain ⟨a3, l3, rfl⟩ := h.os.slice
  obtain ⟨o, HOO⟩ : ∃ o, Hid (off ms 1 ms.length = o) := ⟨_, rfl⟩
  rw [HOO.out] at HL hoff ⊢
  unfold tabV
  have HO2 : Hid (∀ _ : Unit, o ≤ 1000000) := fun _ => by omega
  clear h hM hbb hbx hB hw
  go_enter Tryz.func13, Tryz.ntmps13
  go_wp2_with fail
  rw [← hwb]
  clear hwb
  refine HL.out.mono ?_
  rintro e w1 ⟨rfl, hl, b1, c3, s1, os, ok, tk⟩
  have H1 : Hid ((∃ ad cap, Value.slice a2 ms.length l2 = .slice ad ms.length cap ∧ (ms.length = 0 ∨ ∃ gl, ad = some ⟨gl, 0, none⟩ ∧ Mt w1 gl ms 1 ms.length)) ∧ Below B w w1 ∧ B ≤ w1.heap.size ∧ (∀ g, (Value.slice a3 ss.length l3).ownBlock = some g → ∃ c, w1.heap[g]? = some (.cells c 105 (0, 0))) ∧ TabK w w1) := ⟨hl, b1, s1, ok, tk⟩
  have HS1 := HS.out w1 os o (HO2.out ())
  clear hl b1 s1 os ok tk HL HS
  go_wp2_with fail
  refine HS1.mono ?_
  rintro e w2 ⟨rfl, hh, hb, s2, ⟨q1, q2, q3⟩, kp⟩
  have HF : Hid (HeldT w2 (.slice a2 ms.length l2) (.slice a3 ss.length l3) ms ss 1 ∧ Below B w w2 ∧ TabK w w2) := by
    obtain ⟨hl, b1, s1, ok, tk⟩ := H1.out
    refine ⟨⟨?_, ?_⟩, ⟨q1.trans b1.os, q2.trans b1.tape, q3.trans b1.output, Nat.le_trans b1.size s2, fun k hk => (kp k (by omega) (fun e => by have := hb k e.symm; omega)).trans (b1.block k hk)⟩, fun k cs hk => (kp k (Array.getElem?_eq_some_iff.1 (tk k cs hk)).1 (fun e => by obtain ⟨c, e2⟩ := ok k e.symm; exact kind_ne (tk k cs hk) e2 (by decide) rfl)).trans (tk k cs hk)⟩
    · obtain ⟨ad, cap, e, h3⟩ := hl
      refine ⟨ad, cap, e, h3.imp id fun ⟨gl, e1, hT⟩ => ⟨gl, e1, ?_⟩⟩
      subst e1
      have e2 : a2 = some ⟨gl, 0, none⟩ := by
        have := e
        simp only [Value.slice.injEq, true_and] at this
        exact this.1
      exact hT.kept s2 (kp gl hT.lb.lt fun e => (HAP.out gl e.symm).1 (by rw [e2]; rfl)) fun m hm g hg hlt => kp g hlt fun e => (HAP.out g e.symm).2 m hm hg
    · rw [HOO.out]; exact hh
  clear hh hb kp H1 HS1
  go_wp2_with fail
  go_ret
  exact ⟨rfl, HF.out⟩
set_option maxRecDepth 100000 in
set_option maxHeartbeats 1600000 in
theorem heldTable_any (tm nx : Int) (v2 v3 : Value) (ms : List LkA) (ss : List Sn) (w : World) (h : HeldT w v2 v3 ms ss 1) (hn : ms.length ≤ 100) (hw : ∀ m ∈ ms, m.1.ws.length ≤ 1000) (hs : ss.length ≤ 100) :
    Calls Tryz.prog 25 #[tabV tm nx v2 v3, .int .i64 1] w fun e w' => e = .returned (.int .i64 ((off ms 1 ms.length + ss.length * 6 : Nat) : Int)) ∧ Below w.heap.size w w' := by
  have hoff := off_le (a := 1) hw ms.length (Nat.le_refl _)
  have HL : Hid (∀ W, Below w.heap.size w W → Calls Tryz.prog 54 #[v2, .int .i64 1] W fun e w' => e = .returned (.int .i64 (off ms 1 ms.length : Nat)) ∧ Below W.heap.size W w') := fun W hW => by
    obtain ⟨⟨ad, cap, rfl, h1⟩, _⟩ := h.below hW
    by_cases h0 : ms.length = 0
    · rw [off_nil h0]
      rw [h0]
      refine (nilL_held ad cap 1 W).mono ?_
      rintro e w' ⟨rfl, e2⟩
      rw [e2]
      exact ⟨rfl, Below.refl _ _⟩
    · obtain ⟨gl, rfl, hT⟩ := h1.resolve_left h0
      exact heldLocks_any gl cap ms 1 W hT (by omega) hw (by decide) (by decide)
  have HS : Hid (∀ W, Below w.heap.size w W → Calls Tryz.prog 55 #[v3, .int .i64 (off ms 1 ms.length : Nat)] W fun e w' => e = .returned (.int .i64 ((off ms 1 ms.length + ss.length * 6 : Nat) : Int)) ∧ W = w') := fun W hW => by
    obtain ⟨_, ⟨ad, cap, rfl, h1⟩⟩ := h.below hW
    by_cases h0 : ss.length = 0
    · rw [h0]
      refine (nilS_held ad cap (off ms 1 ms.length) W).mono ?_
      rintro e w' ⟨rfl, e2⟩
      exact ⟨by simp, e2.symm⟩
    · obtain ⟨gs, rfl, hc, _, hu⟩ := h1.resolve_left h0
      exact heldSeens_any gs ss.length cap _ W hu hc (by omega) (by omega)
  obtain ⟨⟨a2, l2, rfl, _⟩, ⟨a3, l3, rfl, _⟩⟩ := h
  obtain ⟨wb, hwb⟩ : ∃ wb, wb = w.alloc (.cells #[.int .i64 tm, .int .i64 nx, .slice a2 ms.length l2, .slice a3 ss.length l3] 36) := ⟨_, rfl⟩
  have hbx : wb.heap[w.heap.size]? = some (.cells #[.int .i64 tm, .int .i64 nx, .slice a2 ms.length l2, .slice a3 ss.length l3] 36 (0, 0)) := by rw [hwb]; exact heap_alloc_new _ _
  have HBB : Hid (Below w.heap.size w wb) := by rw [hwb]; exact bel_new _ _
  have c2 := (blk_cell hbx 2 (x := .slice a2 ms.length l2) rfl).1
  have HC3 : Hid (∀ W, Below wb.heap.size wb W → W.cell? ⟨w.heap.size, 3, none⟩ = some (.slice a3 ss.length l3)) := fun W hW => (hW.cell (p := ⟨w.heap.size, 3, none⟩) (Array.getElem?_eq_some_iff.1 hbx).1).trans (blk_cell hbx 3 (x := .slice a3 ss.length l3) rfl).1
  have h1 : ¬ ((off ms 1 ms.length : Nat) : Int) < 0 := by omega
  have h2 : ¬ ((off ms 1 ms.length + ss.length * 6 : Nat) : Int) < 0 := by omega
  generalize off ms 1 ms.length + ss.length * 6 = r at HS h2 ⊢
  generalize off ms 1 ms.length = o at HL HS h1 hoff
  unfold tabV
  clear hbx hw
  go_enter Tryz.func25, Tryz.ntmps25
  go_wp2_with fail
  rw [← hwb]
  clear hwb
  refine (HL.out wb HBB.out).mono ?_
  rintro e w1 ⟨rfl, b1⟩
  have c3 := HC3.out w1 b1
  have B1 : Below w.heap.size w w1 := HBB.out.trans (b1.mono HBB.out.size)
  clear b1
  go_wp2_with fail
  refine (HS.out w1 B1).mono ?_
  rintro e w2 ⟨rfl, rfl⟩
  go_wp2_with fail
  go_ret
  exact ⟨rfl, B1⟩
end Go.Proofs.YtnebohdlndiejaaGreatDoor.Um
