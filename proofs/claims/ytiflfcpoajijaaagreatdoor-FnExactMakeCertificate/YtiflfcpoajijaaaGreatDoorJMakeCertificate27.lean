/- Texts put together: Mqw, Mki. -/
import Derived.Test.YtiflfcpoajijaaaGreatDoorTk
import Derived.Deep.RegionWith
import Derived.Test.YtiflfcpoajijaaaGreatDoorIs
import Derived.Test.YtiflfcpoajijaaaGreatDoorRg
import Derived.Laws.MakeOwn
import Derived.Lib.SliceRun
/- The laws' helpers on texts: sized, copied, compared, marked. -/
namespace Go.Proofs.YtiflfcpoajijaaaGreatDoor.Mkw
open Go.RowKit Go.Proofs.YtiflfcpoajijaaaGreatDoor.Sl Go.Proofs.YtiflfcpoajijaaaGreatDoor.By Go.Proofs.YtiflfcpoajijaaaGreatDoor.Ap Go.Proofs.YtiflfcpoajijaaaGreatDoor.Tx

/-- The digits of a number, ahead of a text. -/
def mtGo : Nat → Nat → ByteArray → ByteArray
  | 0, _, s => s
  | f + 1, k, s => if k = 0 then s else mtGo f (k / 10) (strOfNums [48 + ((k % 10 : Nat) : Int)] ++ s)
def mtext (k : Nat) : ByteArray := (⟨#[109]⟩ : ByteArray) ++ mtGo (k + 1) k ⟨#[]⟩

set_option maxRecDepth 100000 in
set_option maxHeartbeats 400000 in
theorem markText_any (k : Nat) (w : World) (h0 : 0 < k) (h1 : k ≤ 10000000) :
    Calls Tryz.prog 107 #[.int .i64 k] w fun e w' => e = .returned (.string (mtext k)) ∧ Below w.heap.size w w' := by
  have h0' : ¬ (k : Int) ≤ 0 := by omega
  have h1' : (k : Int) ≤ 10000000 := by omega
  have HT : Hid (mtext k = (⟨#[109]⟩ : ByteArray) ++ mtGo (k + 1) k ⟨#[]⟩) := rfl
  go_enter Tryz.func107, Tryz.ntmps107
  go_wp2_with fail
  go_loopw [0, 3] (fun n s wr => ∃ (q f : Nat) (t : ByteArray), n = .int .i64 q ∧ s = .string t ∧ q ≤ 10000000 ∧ t.size + q ≤ 10000000 ∧ Hid (q < f ∧ mtGo f q t = mtGo (k + 1) k ⟨#[]⟩) ∧ Below w.heap.size w wr) (fun n _ _ => (intOf n).toNat)
  case atStart => exact ⟨k, k + 1, ⟨#[]⟩, rfl, rfl, by omega, by simp [ByteArray.size]; omega, ⟨by omega, rfl⟩, Below.refl _ _⟩
  case round =>
    obtain ⟨q, f, t, rfl, rfl, hq, hts, HF, hbel⟩ := hrel
    by_cases hz : 0 < q
    · have hz' : (0 : Int) < (q : Int) := by omega
      have hcv := By.run_convert_own (P := Tryz.prog) (wr.alloc (.cells #[.int .u8 (48 + (q : Int) % 10)] 5)) wr.heap.size 22 5 9 Tryz.underlying22 Tryz.underlying5 Tryz.underlying9 (.slice (some ⟨wr.heap.size, 0, none⟩) 1 1) [48 + (q : Int) % 10] (own_one 5 wr wr.heap.size (48 + (q : Int) % 10) (Nat.le_refl _))
      have hs1 : (strOfNums [48 + (q : Int) % 10]).size = 1 := by rw [strOfNums_size]; rfl
      have hsz : ¬ 9223372036854775807 < (strOfNums [48 + (q : Int) % 10]).size + t.size := by rw [hs1]; omega
      have HS1 : Hid ((strOfNums [48 + (q : Int) % 10]).size = 1) := hs1
      have HE : Hid (∃ f', q / 10 < f' ∧ mtGo f' (q / 10) (strOfNums [48 + (q : Int) % 10] ++ t) = mtGo (k + 1) k ⟨#[]⟩) := by
        obtain ⟨e1, e2⟩ := HF.out
        cases f with
        | zero => omega
        | succ f =>
          refine ⟨f, by omega, ?_⟩
          rw [← e2]
          show _ = if q = 0 then t else mtGo f (q / 10) (strOfNums [48 + ((q % 10 : Nat) : Int)] ++ t)
          rw [if_neg (by omega)]
          rfl
      clear hs1 HF
      go_wp2_with fail
      obtain ⟨f', e1, e2⟩ := HE.out
      exact ⟨⟨q / 10, f', strOfNums [48 + (q : Int) % 10] ++ t, by simp, rfl, by omega, by rw [ByteArray.size_append, HS1.out]; omega, ⟨e1, e2⟩, hbel.alloc hbel.size _⟩, by simp [intOf]; omega⟩
    · have hz0 : q = 0 := by omega
      have HE : Hid (mtGo (k + 1) k ⟨#[]⟩ = t) := by
        show _ = _
        obtain ⟨e1, e2⟩ := HF.out
        rw [← e2, hz0]
        cases f with
        | zero => rfl
        | succ f => rfl
      have hz' : ¬ (0 : Int) < (q : Int) := by omega
      have hz2 : ¬ 0 < q := hz
      have hsz2 : ¬ 9223372036854775807 < 1 + t.size := by omega
      have hsz3 : ¬ 9223372036854775807 < (⟨#[109]⟩ : ByteArray).size + t.size := hsz2
      clear hz0
      go_wp2
      go_ret
      exact ⟨ret_str (by rw [HT.out, HE.out]), hbel⟩

/-- Marked texts, from a on. -/
def tmarks (a n : Nat) : List ByteArray := (List.range n).map fun j => mtext (a + j)
theorem tmarks_length (a n : Nat) : (tmarks a n).length = n := by simp [tmarks]
theorem tmarks_at (a n j : Nat) (h : j < n) : tnth (tmarks a n) j = mtext (a + j) := by
  unfold tnth tmarks
  rw [List.getD_eq_getElem?_getD, List.getElem?_map, List.getElem?_range h]
  rfl
theorem kp_set {w : World} {g n : Nat} (j : Nat) (x : Value) : Kp w (w.setCell ⟨g, j, none⟩ x) (.slice (some ⟨g, 0, none⟩) n n) (.slice (some ⟨g, 0, none⟩) n n) :=
  Kp.of_grown ⟨rfl, rfl, rfl, by simp, fun k _ hk => Below.heap_setCell w ⟨g, j, none⟩ x k (fun e => hk (by rw [e]; rfl))⟩ (.inl rfl)
/-- A slice in a block of its own with room behind: its texts. -/
def RowG (w : World) (g n cap : Nat) (ts : List ByteArray) : Prop :=
  ∃ A : Array Value, w.heap[g]? = some (.cells A 9 (0, 0)) ∧ n ≤ A.size ∧ n ≤ cap ∧ ts.length = n ∧ ∀ j, j < n → A[j]? = some (.string (tnth ts j))
theorem RowG.row {w : World} {g n cap : Nat} {ts : List ByteArray} (h : RowG w g n cap ts) : RowT w (.slice (some ⟨g, 0, none⟩) n cap) ts := by
  obtain ⟨A, hg, hs, hc, rfl, hA⟩ := h
  refine ⟨_, _, rfl, .inr ⟨g, 0, rfl, hc, (Array.getElem?_eq_some_iff.1 hg).1, fun i hi => ?_⟩⟩
  rw [Nat.zero_add, Joins.cell_of_block hg i]
  exact hA i hi
theorem own_open {w : World} {B : Nat} {v : Value} {ts : List ByteArray} (h : OwnS w B v ts) : (v = .slice none 0 0 ∧ ts = []) ∨ ∃ g cap, v = .slice (some ⟨g, 0, none⟩) ts.length cap ∧ B ≤ g ∧ RowG w g ts.length cap ts := by
  have hrow := h.row
  obtain ⟨hl, h⟩ := h
  rcases h with ⟨rfl, h0⟩ | ⟨g, cap, cur, rfl, hB, hg, hc, _, hs, htk⟩
  · exact .inl ⟨rfl, List.length_eq_zero_iff.1 h0⟩
  · refine .inr ⟨g, cap, rfl, hB, cur, hg, by omega, hc, rfl, fun i hi => ?_⟩
    have h1 : (cur.toList.take (ts.length * 1))[i]? = some (.string (tnth ts i)) := by
      rw [htk, List.getElem?_map, List.getElem?_eq_getElem hi]
      simp [tnth, List.getD_eq_getElem?_getD, List.getElem?_eq_getElem hi]
    rw [List.getElem?_take] at h1
    split at h1
    · simpa using h1
    · cases h1
set_option maxHeartbeats 400000 in
theorem markNil_any (a : Nat) (w : World) : Calls Tryz.prog 79 #[.slice none 0 0, .int .i64 a] w fun e w' => e = .returned (.int .i64 (a : Int)) ∧ w' = w := by
  go_enter Tryz.func79, Tryz.ntmps79
  go_wp2_with fail
  go_loopw [1, 5] (fun k i wr => k = .int .i64 (a : Int) ∧ i = .int .i64 0 ∧ wr = w) (fun _ _ _ => 0)
  case atStart => exact ⟨rfl, rfl, rfl⟩
  case round =>
    obtain ⟨rfl, rfl, rfl⟩ := hrel
    go_wp2
    go_ret
    exact ⟨rfl, rfl⟩
set_option maxHeartbeats 800000 in
theorem markG_any (g n cap : Nat) (ts : List ByteArray) (a : Nat) (w : World) (h : RowG w g n cap ts) (ha : 0 < a) (ha2 : a ≤ 100000) (hl : n ≤ 2000000) :
    Calls Tryz.prog 79 #[.slice (some ⟨g, 0, none⟩) n cap, .int .i64 a] w fun e w' => e = .returned (.int .i64 ((a : Int) + n)) ∧ RowG w' g n cap (tmarks a n) ∧ Kp w w' (.slice (some ⟨g, 0, none⟩) n n) (.slice (some ⟨g, 0, none⟩) n n) := by
  obtain ⟨A0, hg, hsz, hc, _, _⟩ := h
  have HG : Hid (w.heap[g]? = some (.cells A0 9 (0, 0)) ∧ n ≤ A0.size) := ⟨hg, hsz⟩
  have HC : Hid (n ≤ cap) := hc
  clear hg hsz hc
  go_enter Tryz.func79, Tryz.ntmps79
  go_wp2_with fail
  go_loopw [1, 5] (fun k i wr => ∃ (q : Nat) (A : Array Value), q ≤ n ∧ k = .int .i64 ((a : Int) + (q : Int)) ∧ i = .int .i64 q ∧ Hid (wr.heap[g]? = some (.cells A 9 (0, 0)) ∧ n ≤ A.size ∧ ∀ j, j < q → A[j]? = some (.string (mtext (a + j)))) ∧ Kp w wr (.slice (some ⟨g, 0, none⟩) n n) (.slice (some ⟨g, 0, none⟩) n n)) (fun _ i _ => n - (intOf i).toNat)
  case atStart => exact ⟨0, A0, by omega, by simp, rfl, ⟨HG.out.1, HG.out.2, fun j hj => absurd hj (by omega)⟩, Kp.refl _ _⟩
  case round =>
    obtain ⟨q, A, hq, rfl, rfl, HA, hk⟩ := hrel
    by_cases hlt : q < n
    · have EA : Hid ((a : Int) + (q : Int) = ((a + q : Nat) : Int)) := by show _ = _; omega
      go_wp2_with fail
      rw [EA.out]
      refine (markText_any (a + q) _ (by omega) (by omega)).mono ?_
      rintro e w2 ⟨rfl, b2⟩
      have hg2 : w2.heap[g]? = some (.cells A 9 (0, 0)) := (b2.block g (Array.getElem?_eq_some_iff.1 HA.out.1).1).trans HA.out.1
      have hqA : q < A.size := Nat.lt_of_lt_of_le hlt HA.out.2.1
      obtain ⟨x, hx⟩ : ∃ x, A[q]? = some x := ⟨_, Array.getElem?_eq_getElem hqA⟩
      obtain ⟨c1, f1⟩ := blk_cell hg2 q hx
      have hg3 := blk_set hg2 q (.string (mtext (a + q)))
      have HA' : Hid ((w2.setCell ⟨g, q, none⟩ (.string (mtext (a + q)))).heap[g]? = some (.cells (A.setIfInBounds q (.string (mtext (a + q)))) 9 (0, 0)) ∧ n ≤ (A.setIfInBounds q (.string (mtext (a + q)))).size ∧ ∀ j, j < q + 1 → (A.setIfInBounds q (.string (mtext (a + q))))[j]? = some (.string (mtext (a + j)))) := by
        refine ⟨hg3, by rw [Array.size_setIfInBounds]; exact HA.out.2.1, fun j hj => ?_⟩
        rw [Array.getElem?_setIfInBounds]
        by_cases e : q = j
        · subst e
          rw [if_pos rfl, if_pos hqA]
        · rw [if_neg e]
          exact HA.out.2.2 j (by omega)
      have hk2 := (hk.trans (Kp.of_below _ b2)).trans (kp_set (w := w2) (g := g) (n := n) q (.string (mtext (a + q))))
      clear hg2 hg3 hx b2 hqA
      go_wp2_with fail
      exact ⟨⟨q + 1, _, by omega, by go_num, by go_num, HA'.out, hk2⟩, by simp [intOf]; omega⟩
    · obtain rfl : q = n := by omega
      go_wp2
      go_ret
      refine ⟨rfl, ⟨A, HA.out.1, HA.out.2.1, HC.out, tmarks_length _ _, fun j hj => ?_⟩, hk⟩
      rw [tmarks_at a q j hj]
      exact HA.out.2.2 j hj

set_option maxHeartbeats 800000 in
theorem heldStringS_any (v : Value) (n a : Nat) (w : World) (h : RowT w v (tmarks a n)) (ha : 0 < a) (ha2 : a ≤ 100000) (hl : n ≤ 2000000) :
    Calls Tryz.prog 80 #[v, .int .i64 a] w fun e w' => e = .returned (.int .i64 ((a : Int) + n)) ∧ Below w.heap.size w w' := by
  obtain ⟨ad, cap, rfl, h⟩ := h
  rw [tmarks_length] at h ⊢
  have h' : ∀ q, q < n → ∃ b off, ad = some ⟨b, off, none⟩ ∧ b < w.heap.size ∧ n ≤ cap ∧ w.cell? ⟨b, off + q, none⟩ = some (.string (mtext (a + q))) := by
    intro q hq
    rcases h with h | ⟨b, off, rfl, hc, hb, hcell⟩
    · have := congrArg List.length h; rw [tmarks_length] at this; simp at this; omega
    · exact ⟨b, off, rfl, hb, hc, by rw [hcell q hq, tmarks_at a n q hq]⟩
  have HH : Hid (_) := h'
  clear h h'
  go_enter Tryz.func80, Tryz.ntmps80
  go_wp2_with fail
  go_loopw [1, 5] (fun k i wr => ∃ q : Nat, q ≤ n ∧ k = .int .i64 ((a : Int) + (q : Int)) ∧ i = .int .i64 q ∧ Below w.heap.size w wr) (fun _ i _ => n - (intOf i).toNat)
  case atStart => exact ⟨0, by omega, by simp, rfl, Below.refl _ _⟩
  case round =>
    obtain ⟨q, hq, rfl, rfl, hbel⟩ := hrel
    by_cases hlt : q < n
    · have EA : Hid ((a : Int) + (q : Int) = ((a + q : Nat) : Int)) := by show _ = _; omega
      obtain ⟨b, off, rfl, hb, hc, hcell⟩ := HH.out q hlt
      have hc0 : wr.cell? ⟨b, off + q, none⟩ = some (.string (mtext (a + q))) := (hbel.cell (p := ⟨b, off + q, none⟩) hb).trans hcell
      have hbw : b < wr.heap.size := Nat.lt_of_lt_of_le hb hbel.size
      have hne : ((mtext (a + q)).toList == (mtext (a + q)).toList) = true := by simp
      have HT : Hid (∀ W : World, Calls Tryz.prog 107 #[.int .i64 ((a : Int) + (q : Int))] W fun e w' => e = .returned (.string (mtext (a + q))) ∧ Below W.heap.size W w') := fun W => by
        rw [EA.out]; exact markText_any (a + q) W (by omega) (by omega)
      clear hcell
      generalize mtext (a + q) = mt at hc0 hne HT
      have hp0 : (0 : Int) ≤ (q : Int) := by omega
      have hp1 : (q : Int) < (n : Int) := by omega
      go_wp2
      go_region_with (go_at_call 107; refine (HT.out _).mono ?_; rintro e w2 ⟨rfl, b2⟩; have b3 : Below wr.heap.size wr w2 := (ordB rfl b2).1; have c2 : w2.cell? ⟨b, off + q, none⟩ = some (.string mt) := (b3.cell (p := ⟨b, off + q, none⟩) hbw).trans hc0; have B2 : Below w.heap.size w w2 := hbel.trans (b3.mono hbel.size); clear b2 b3)
      all_goals go_wp2
      all_goals exact ⟨⟨q + 1, by omega, by go_num, by go_num, B2⟩, by simp [intOf]; omega⟩
    · obtain rfl : q = n := by omega
      go_wp2
      go_ret
      exact ⟨rfl, hbel⟩

/-- The marks of a list of the call's own. -/
theorem markOwn_any (v : Value) (ts : List ByteArray) (a B n : Nat) (w : World) (h : OwnS w B v ts) (hn : ts.length = n) (ha : 0 < a) (ha2 : a ≤ 100000) (hl : n ≤ 1000) :
    Calls Tryz.prog 79 #[v, .int .i64 a] w fun e w' => e = .returned (.int .i64 ((a + n : Nat) : Int)) ∧ RowT w' v (tmarks a n) ∧ Kp w w' v v := by
  subst hn
  rcases own_open h with ⟨rfl, rfl⟩ | ⟨g, cap, rfl, _, hg⟩
  · refine (markNil_any a w).mono ?_
    rintro e w' ⟨rfl, e2⟩
    rw [e2]
    exact ⟨rfl, ⟨none, 0, rfl, .inl rfl⟩, Kp.refl _ _⟩
  · refine (markG_any g ts.length cap ts a w hg ha ha2 (by omega)).mono ?_
    rintro e w' ⟨rfl, h1, h2⟩
    refine ⟨by rw [Int.natCast_add], h1.row, ?_⟩
    exact ⟨h2.os, h2.tape, h2.output, h2.size, h2.block, h2.away⟩

set_option maxHeartbeats 400000 in
theorem eqStringS_same (v u : Value) (ts : List ByteArray) (w : World) (h : RowT w v ts) (g : RowT w u ts) (hl : ts.length ≤ 1048576) :
    Calls Tryz.prog 106 #[v, u] w fun e w' => e = .returned (.bool true) ∧ Below w.heap.size w w' := by
  obtain ⟨a, cap, rfl, h⟩ := h
  obtain ⟨a', cap', rfl, g⟩ := g
  have hne : ((ts.length : Int) != (ts.length : Int)) = false := by simp
  go_enter Tryz.func106, Tryz.ntmps106
  go_wp2_with fail
  go_loopw [5] (fun i wr => ∃ k : Nat, k ≤ ts.length ∧ i = .int .i64 k ∧ ∃ n, wr = w.drewN n) (fun i _ => ts.length - (intOf i).toNat)
  case atStart => exact ⟨0, by omega, rfl, 0, rfl⟩
  case round =>
    obtain ⟨k, hk, rfl, n, rfl⟩ := hrel
    by_cases hlt : k < ts.length
    · rcases h with h | ⟨b, off, rfl, hc, hb, hcell⟩
      · exact absurd hlt (by rw [h]; simp)
      rcases g with g | ⟨b', off', rfl, hc', hb', gcell⟩
      · exact absurd hlt (by rw [g]; simp)
      have hc1 := hcell k hlt
      have hc2 := gcell k hlt
      have hp0 : (0 : Int) ≤ (k : Int) := by omega
      have hp1 : (k : Int) < (ts.length : Int) := by omega
      clear hcell gcell
      go_wp2
      go_quiet (fail)
      go_wp2
      exact ⟨⟨k + 1, by omega, by go_num, n + nq, rfl⟩, by simp [intOf]; omega⟩
    · go_wp2
      go_ret
      exact ⟨rfl, ⟨rfl, rfl, rfl, Nat.le_refl _, fun _ _ => rfl⟩⟩
end Go.Proofs.YtiflfcpoajijaaaGreatDoor.Mkw

/- Integers that are marked. -/
namespace Go.Proofs.YtiflfcpoajijaaaGreatDoor.Mi12
open Go.RowKit Go.Proofs.YtiflfcpoajijaaaGreatDoor.Rg Go.Proofs.YtiflfcpoajijaaaGreatDoor.Is
open Go.Proofs.YtiflfcpoajijaaaGreatDoor.Sl (nth)
def upd {α : Type} (f : Nat → α) (q : Nat) (y : α) : Nat → α := fun j => if j = q then y else f j
theorem upd_q {α : Type} (f : Nat → α) (q : Nat) (y : α) : upd f q y q = y := if_pos rfl
theorem upd_o {α : Type} (f : Nat → α) {q j : Nat} (y : α) (h : j ≠ q) : upd f q y j = f j := if_neg h
theorem grown_set {w : World} {p : Nat} (i : Nat) (x : Value) : w.grownBy (w.setCell ⟨p, i, none⟩ x) (some p) :=
  ⟨rfl, rfl, rfl, by simp, fun k _ hk => Below.heap_setCell w ⟨p, i, none⟩ x k (fun e => hk (by rw [e]))⟩
theorem grown_trans {w w1 w2 : World} {r : Option Nat} (h : w.grownBy w1 r) (g : w1.grownBy w2 r) : w.grownBy w2 r :=
  ⟨g.os.trans h.os, g.tape.trans h.tape, g.output.trans h.output, Nat.le_trans h.size g.size, fun k hk hn => (g.block k (Nat.lt_of_lt_of_le hk h.size) hn).trans (h.block k hk hn)⟩
theorem grown_refl (w : World) (r : Option Nat) : w.grownBy w r := ⟨rfl, rfl, rfl, Nat.le_refl _, fun _ _ _ => rfl⟩
/-- Block g holds m integers. -/
def MI (w : World) (g m : Nat) (f : Nat → Int) : Prop := ∃ A, w.heap[g]? = some (.cells A 3 (0, 0)) ∧ ∀ i, i < m → A[i]? = some (.int .i64 (f i))
theorem MI.kept {w w' : World} {g m : Nat} {f : Nat → Int} (h : MI w g m f) (hb : w'.heap[g]? = w.heap[g]?) : MI w' g m f := by obtain ⟨A, h1, h2⟩ := h; exact ⟨A, hb.trans h1, h2⟩
theorem MI.lt {w : World} {g m : Nat} {f : Nat → Int} (h : MI w g m f) : g < w.heap.size := by obtain ⟨A, h1, _⟩ := h; exact (Array.getElem?_eq_some_iff.1 h1).1
theorem MI.below {w w' : World} {g m : Nat} {f : Nat → Int} (h : MI w g m f) (hb : Below w.heap.size w w') : MI w' g m f := h.kept (hb.block g h.lt)
theorem MI.cell {w : World} {g m : Nat} {f : Nat → Int} (h : MI w g m f) {i : Nat} (hi : i < m) : w.cell? ⟨g, i, none⟩ = some (.int .i64 (f i)) ∧ w.frozen? ⟨g, i, none⟩ = false := by
  obtain ⟨A, h1, h2⟩ := h
  exact blk_cell h1 _ (h2 i hi)
theorem MI.set {w : World} {g m : Nat} {f : Nat → Int} (h : MI w g m f) {q : Nat} (hq : q < m) (x : Int) : MI (w.setCell ⟨g, q, none⟩ (.int .i64 x)) g m (upd f q x) := by
  obtain ⟨A, h1, h2⟩ := h
  refine ⟨_, blk_set h1 _ _, fun i hi => ?_⟩
  have hs : q < A.size := (Array.getElem?_eq_some_iff.1 (h2 q hq)).1
  rw [Array.getElem?_setIfInBounds]
  by_cases e : q = i
  · subst e
    rw [if_pos rfl, if_pos hs, upd_q]
  · rw [if_neg e, upd_o _ _ (Ne.symm e)]
    exact h2 i hi
set_option maxHeartbeats 400000 in
theorem toIntO_any (v : Value) (xs : List Int) (w : World) (h : RowI w v xs) (hl : xs.length ≤ 1048576) :
    Calls Tryz.prog 18 #[v] w fun e w' => ∃ g, e = .returned (.slice (some ⟨g, 0, none⟩) xs.length xs.length) ∧ (w.heap.size ≤ g ∧ MI w' g xs.length (fun i => nth xs i) ∧ RowI w' (.slice (some ⟨g, 0, none⟩) xs.length xs.length) xs) ∧ Below w.heap.size w w' := by
  obtain ⟨a, cap, rfl, h, hr⟩ := h
  obtain ⟨i0, hi, hz0, hz1, hz2⟩ := info_parts info3
  have hmk := run_make (P := Tryz.prog) w 26 3 i0 (.int .i64 0) Tryz.underlying26 hi hz0 .i64 .i64 (xs.length : Int) (xs.length : Int) (by omega) (by omega) (by rw [hz2]; omega) (by omega)
  have hA0 : Copied xs 0 (madeCells (Value.int .i64 0).cells ((xs.length : Int).toNat * i0.size)) := ⟨by rw [hz1]; simp [madeCells, Value.cells], fun j hj => absurd hj (by omega)⟩
  generalize madeCells (Value.int .i64 0).cells ((xs.length : Int).toNat * i0.size) = A0 at hmk hA0
  rw [Int.toNat_natCast] at hmk
  go_enter Tryz.func18, Tryz.ntmps18
  go_wp2_with fail
  clear hmk
  go_loopw [4] (fun i wr => ∃ k : Nat, ∃ A : Array Value, k ≤ xs.length ∧ i = .int .i64 k ∧ wr = w.alloc (.cells A 3) ∧ Copied xs k A) (fun i _ => xs.length - (intOf i).toNat)
  case atStart => exact ⟨0, A0, by omega, rfl, rfl, hA0⟩
  case round =>
    clear hA0
    obtain ⟨k, A, hk, rfl, rfl, hA⟩ := hrel
    by_cases hlt : k < xs.length
    · rcases h with h | ⟨b, off, rfl, hc, hb, hcell⟩
      · exact absurd hlt (by rw [h]; simp)
      have hc1 := hcell k hlt
      have hne : b ≠ w.heap.size := by omega
      obtain ⟨x, hx⟩ : ∃ x, A[k]? = some x := ⟨_, Array.getElem?_eq_getElem (by rw [hA.1]; exact hlt)⟩
      clear hcell
      have hA' : Copied xs (k + 1) (A.setIfInBounds k (.int .i64 (nth xs k))) := by
        refine ⟨by rw [Array.size_setIfInBounds]; exact hA.1, fun j hj => ?_⟩
        rw [Array.getElem?_setIfInBounds]
        by_cases e : k = j
        · subst e
          rw [if_pos rfl, if_pos (by rw [hA.1]; exact hlt)]
        · rw [if_neg e]
          exact hA.2 j (by omega)
      go_wp2
      go_roundw
      case rel => exact ⟨k + 1, _, by omega, by go_num, rfl, hA'⟩
      case measure => simp [intOf]; omega
    · obtain rfl : k = xs.length := by omega
      go_wp2
      go_ret
      refine ⟨w.heap.size, rfl, ⟨Nat.le_refl _, ⟨A, heap_alloc_new _ _, fun i hi => hA.2 i hi⟩, ⟨_, _, rfl, .inr ⟨w.heap.size, 0, rfl, Nat.le_refl _, by simp, fun i hi => ?_⟩, hr⟩⟩, (Below.refl _ _).alloc (Nat.le_refl _) _⟩
      rw [Nat.zero_add, World.cell?_alloc_at _ _ _ _ rfl]
      exact hA.2 i hi
set_option maxHeartbeats 400000 in
theorem markInt_nil (a : Int) (ad : Option Addr) (cap : Nat) (w : World) : Calls Tryz.prog 21 #[.slice ad 0 cap, .int .i64 a] w fun e w' => e = .returned (.int .i64 a) ∧ w = w' := by
  go_enter Tryz.func21, Tryz.ntmps21
  go_wp2_with fail
  go_loopw [1, 5] (fun k i wr => k = .int .i64 a ∧ i = .int .i64 0 ∧ wr = w) (fun _ _ _ => 0)
  case atStart => exact ⟨rfl, rfl, rfl⟩
  case round =>
    obtain ⟨rfl, rfl, rfl⟩ := hrel
    go_wp2
    go_ret
    exact ⟨rfl, rfl⟩
set_option maxHeartbeats 400000 in
theorem heldInt_nil (a : Int) (ad : Option Addr) (cap : Nat) (w : World) : Calls Tryz.prog 49 #[.slice ad 0 cap, .int .i64 a] w fun e w' => e = .returned (.int .i64 a) ∧ w = w' := by
  go_enter Tryz.func49, Tryz.ntmps49
  go_wp2_with fail
  go_loopw [1, 5] (fun k i wr => k = .int .i64 a ∧ i = .int .i64 0 ∧ wr = w) (fun _ _ _ => 0)
  case atStart => exact ⟨rfl, rfl, rfl⟩
  case round =>
    obtain ⟨rfl, rfl, rfl⟩ := hrel
    go_wp2
    go_ret
    exact ⟨rfl, rfl⟩
set_option maxRecDepth 100000 in
set_option maxHeartbeats 3200000 in
theorem markInts (g m cap a : Nat) (f : Nat → Int) (w : World) (h : MI w g m f) (hm : m ≤ 1048576) (ha : a ≤ 1000) :
    Calls Tryz.prog 21 #[.slice (some ⟨g, 0, none⟩) m cap, .int .i64 a] w fun e w' => e = .returned (.int .i64 ((a + m : Nat) : Int)) ∧ (∃ f', MI w' g m f' ∧ ∀ j, j < m → f' j = ((a + j : Nat) : Int)) ∧ w.grownBy w' (some g) := by
  have H : Hid (MI w g m f) := h
  clear h
  go_enter Tryz.func21, Tryz.ntmps21
  go_wp2_with fail
  go_loopw [1, 5] (fun k i wr => ∃ (q r : Nat) (f : Nat → Int), q ≤ m ∧ k = .int .i64 (r : Int) ∧ r ≤ 2000000 ∧ i = .int .i64 q ∧ Hid (r = a + q) ∧ Hid (MI wr g m f) ∧ Hid (∀ j, j < q → f j = ((a + j : Nat) : Int)) ∧ Hid (w.grownBy wr (some g))) (fun _ i _ => m - (intOf i).toNat)
  case atStart => exact ⟨0, a, f, by omega, rfl, by omega, rfl, (by show _ = _; omega), H, (fun j hj => absurd hj (by omega)), grown_refl _ _⟩
  case round =>
    clear H
    obtain ⟨q, r, f, hq, rfl, hr, rfl, HRR, HM, HF, HG⟩ := hrel
    by_cases hlt : q < m
    · have hp0 : (0 : Int) ≤ (q : Int) := by omega
      have hp1 : (q : Int) < (m : Int) := by omega
      obtain ⟨c0, f0⟩ := HM.out.cell hlt
      have M1 : Hid (MI (wr.setCell ⟨g, q, none⟩ (.int .i64 (r : Int))) g m (upd f q (r : Int))) := HM.out.set hlt _
      have G1 : Hid (w.grownBy (wr.setCell ⟨g, q, none⟩ (.int .i64 (r : Int))) (some g)) := grown_trans HG.out (grown_set _ _)
      have HF1 : Hid (∀ j, j < q + 1 → upd f q (r : Int) j = ((a + j : Nat) : Int)) := fun j hj => by
        by_cases e : j = q
        · subst e; rw [upd_q, HRR.out]
        · rw [upd_o _ _ e]; exact HF.out j (by omega)
      clear HM HF HG
      go_wp2_with fail
      exact ⟨⟨q + 1, r + 1, _, by omega, by go_num, by have := HRR.out; omega, by go_num, (by show _ = _; have := HRR.out; omega), M1, HF1, G1⟩, by simp [intOf]; omega⟩
    · obtain rfl : q = m := by omega
      go_wp2_with fail
      go_ret
      exact ⟨by rw [← HRR.out]; rfl, ⟨f, HM.out, HF.out⟩, HG.out⟩
set_option maxRecDepth 100000 in
set_option maxHeartbeats 3200000 in
theorem heldInts (g m cap a : Nat) (f : Nat → Int) (w : World) (h : MI w g m f) (hf : ∀ j, j < m → f j = ((a + j : Nat) : Int)) (hm : m ≤ 1048576) (ha : a ≤ 1000) :
    Calls Tryz.prog 49 #[.slice (some ⟨g, 0, none⟩) m cap, .int .i64 a] w fun e w' => e = .returned (.int .i64 ((a + m : Nat) : Int)) ∧ Below w.heap.size w w' := by
  have H : Hid (MI w g m f) := h
  have HF : Hid (∀ j, j < m → f j = ((a + j : Nat) : Int)) := hf
  clear h hf
  go_enter Tryz.func49, Tryz.ntmps49
  go_wp2_with fail
  go_loopw [1, 5] (fun k i wr => ∃ (q r : Nat), q ≤ m ∧ k = .int .i64 (r : Int) ∧ r ≤ 2000000 ∧ i = .int .i64 q ∧ Hid (r = a + q) ∧ Hid (Below w.heap.size w wr)) (fun _ i _ => m - (intOf i).toNat)
  case atStart => exact ⟨0, a, by omega, rfl, by omega, rfl, (by show _ = _; omega), Below.refl _ _⟩
  case round =>
    obtain ⟨q, r, hq, rfl, hr, rfl, HRR, HB⟩ := hrel
    by_cases hlt : q < m
    · have hp0 : (0 : Int) ≤ (q : Int) := by omega
      have hp1 : (q : Int) < (m : Int) := by omega
      obtain ⟨c0, _⟩ := (H.out.below HB.out).cell hlt
      rw [HF.out q hlt, ← HRR.out] at c0
      have hne : ((r : Int) != (r : Int)) = false := by simp
      go_wp2_with fail
      exact ⟨⟨q + 1, r + 1, by omega, by go_num, by have := HRR.out; omega, by go_num, (by show _ = _; have := HRR.out; omega), HB⟩, by simp [intOf]; omega⟩
    · obtain rfl : q = m := by omega
      go_wp2_with fail
      go_ret
      exact ⟨by rw [← HRR.out]; rfl, HB.out⟩
end Go.Proofs.YtiflfcpoajijaaaGreatDoor.Mi12
