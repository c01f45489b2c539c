/- Texts put together: Mq, Sq, Sz. -/
import Derived.Test.YtiflfcpoajijaaaGreatDoorTk
import Derived.Deep.RegionWith
import Derived.Test.YtiflfcpoajijaaaGreatDoorJMakeCertificate13
import Derived.Deep.CutRange
import Derived.Deep.DeepCutAuto
/- The laws' helpers on texts: sized, copied, compared, marked. -/
namespace Go.Proofs.YtiflfcpoajijaaaGreatDoor.Mk
open Go.RowKit Go.Proofs.YtiflfcpoajijaaaGreatDoor.Sl Go.Proofs.YtiflfcpoajijaaaGreatDoor.By Go.Proofs.YtiflfcpoajijaaaGreatDoor.Ap Go.Proofs.YtiflfcpoajijaaaGreatDoor.Tx

/-- The digits of a number, ahead of a text. -/
def mtGo : Nat → Nat → ByteArray → ByteArray
  | 0, _, s => s
  | f + 1, k, s => if k = 0 then s else mtGo f (k / 10) (strOfNums [48 + ((k % 10 : Nat) : Int)] ++ s)
def mtext (k : Nat) : ByteArray := (⟨#[109]⟩ : ByteArray) ++ mtGo (k + 1) k ⟨#[]⟩

set_option maxRecDepth 100000 in
set_option maxHeartbeats 400000 in
theorem markText_any (k : Nat) (w : World) (h0 : 0 < k) (h1 : k ≤ 10000000) :
    Calls Tryz.prog 107 #[.int .i64 k] w fun e w' => e = .returned (.string (mtext k)) ∧ Below w.heap.size w w' := by
  have h0' : ¬ (k : Int) ≤ 0 := by omega
  have h1' : (k : Int) ≤ 10000000 := by omega
  have HT : Hid (mtext k = (⟨#[109]⟩ : ByteArray) ++ mtGo (k + 1) k ⟨#[]⟩) := rfl
  go_enter Tryz.func107, Tryz.ntmps107
  go_wp2_with fail
  go_loopw [0, 3] (fun n s wr => ∃ (q f : Nat) (t : ByteArray), n = .int .i64 q ∧ s = .string t ∧ q ≤ 10000000 ∧ t.size + q ≤ 10000000 ∧ Hid (q < f ∧ mtGo f q t = mtGo (k + 1) k ⟨#[]⟩) ∧ Below w.heap.size w wr) (fun n _ _ => (intOf n).toNat)
  case atStart => exact ⟨k, k + 1, ⟨#[]⟩, rfl, rfl, by omega, by simp [ByteArray.size]; omega, ⟨by omega, rfl⟩, Below.refl _ _⟩
  case round =>
    obtain ⟨q, f, t, rfl, rfl, hq, hts, HF, hbel⟩ := hrel
    by_cases hz : 0 < q
    · have hz' : (0 : Int) < (q : Int) := by omega
      have hcv := By.run_convert_own (P := Tryz.prog) (wr.alloc (.cells #[.int .u8 (48 + (q : Int) % 10)] 5)) wr.heap.size 22 5 9 Tryz.underlying22 Tryz.underlying5 Tryz.underlying9 (.slice (some ⟨wr.heap.size, 0, none⟩) 1 1) [48 + (q : Int) % 10] (own_one 5 wr wr.heap.size (48 + (q : Int) % 10) (Nat.le_refl _))
      have hs1 : (strOfNums [48 + (q : Int) % 10]).size = 1 := by rw [strOfNums_size]; rfl
      have hsz : ¬ 9223372036854775807 < (strOfNums [48 + (q : Int) % 10]).size + t.size := by rw [hs1]; omega
      have HS1 : Hid ((strOfNums [48 + (q : Int) % 10]).size = 1) := hs1
      have HE : Hid (∃ f', q / 10 < f' ∧ mtGo f' (q / 10) (strOfNums [48 + (q : Int) % 10] ++ t) = mtGo (k + 1) k ⟨#[]⟩) := by
        obtain ⟨e1, e2⟩ := HF.out
        cases f with
        | zero => omega
        | succ f =>
          refine ⟨f, by omega, ?_⟩
          rw [← e2]
          show _ = if q = 0 then t else mtGo f (q / 10) (strOfNums [48 + ((q % 10 : Nat) : Int)] ++ t)
          rw [if_neg (by omega)]
          rfl
      clear hs1 HF
      go_wp2_with fail
      obtain ⟨f', e1, e2⟩ := HE.out
      exact ⟨⟨q / 10, f', strOfNums [48 + (q : Int) % 10] ++ t, by simp, rfl, by omega, by rw [ByteArray.size_append, HS1.out]; omega, ⟨e1, e2⟩, hbel.alloc hbel.size _⟩, by simp [intOf]; omega⟩
    · have hz0 : q = 0 := by omega
      have HE : Hid (mtGo (k + 1) k ⟨#[]⟩ = t) := by
        show _ = _
        obtain ⟨e1, e2⟩ := HF.out
        rw [← e2, hz0]
        cases f with
        | zero => rfl
        | succ f => rfl
      have hz' : ¬ (0 : Int) < (q : Int) := by omega
      have hz2 : ¬ 0 < q := hz
      have hsz2 : ¬ 9223372036854775807 < 1 + t.size := by omega
      have hsz3 : ¬ 9223372036854775807 < (⟨#[109]⟩ : ByteArray).size + t.size := hsz2
      clear hz0
      go_wp2
      go_ret
      exact ⟨ret_str (by rw [HT.out, HE.out]), hbel⟩

/-- Marked texts, from a on. -/
def tmarks (a n : Nat) : List ByteArray := (List.range n).map fun j => mtext (a + j)
theorem tmarks_length (a n : Nat) : (tmarks a n).length = n := by simp [tmarks]
theorem tmarks_at (a n j : Nat) (h : j < n) : tnth (tmarks a n) j = mtext (a + j) := by
  unfold tnth tmarks
  rw [List.getD_eq_getElem?_getD, List.getElem?_map, List.getElem?_range h]
  rfl
theorem kp_set {w : World} {g n : Nat} (j : Nat) (x : Value) : Kp w (w.setCell ⟨g, j, none⟩ x) (.slice (some ⟨g, 0, none⟩) n n) (.slice (some ⟨g, 0, none⟩) n n) :=
  Kp.of_grown ⟨rfl, rfl, rfl, by simp, fun k _ hk => Below.heap_setCell w ⟨g, j, none⟩ x k (fun e => hk (by rw [e]; rfl))⟩ (.inl rfl)
/-- A slice in a block of its own with room behind: its texts. -/
def RowG (w : World) (g n cap : Nat) (ts : List ByteArray) : Prop :=
  ∃ A : Array Value, w.heap[g]? = some (.cells A 9 (0, 0)) ∧ n ≤ A.size ∧ n ≤ cap ∧ ts.length = n ∧ ∀ j, j < n → A[j]? = some (.string (tnth ts j))
theorem RowG.row {w : World} {g n cap : Nat} {ts : List ByteArray} (h : RowG w g n cap ts) : RowT w (.slice (some ⟨g, 0, none⟩) n cap) ts := by
  obtain ⟨A, hg, hs, hc, rfl, hA⟩ := h
  refine ⟨_, _, rfl, .inr ⟨g, 0, rfl, hc, (Array.getElem?_eq_some_iff.1 hg).1, fun i hi => ?_⟩⟩
  rw [Nat.zero_add, Joins.cell_of_block hg i]
  exact hA i hi
theorem own_open {w : World} {B : Nat} {v : Value} {ts : List ByteArray} (h : OwnS w B v ts) : (v = .slice none 0 0 ∧ ts = []) ∨ ∃ g cap, v = .slice (some ⟨g, 0, none⟩) ts.length cap ∧ B ≤ g ∧ RowG w g ts.length cap ts := by
  have hrow := h.row
  obtain ⟨hl, h⟩ := h
  rcases h with ⟨rfl, h0⟩ | ⟨g, cap, cur, rfl, hB, hg, hc, _, hs, htk⟩
  · exact .inl ⟨rfl, List.length_eq_zero_iff.1 h0⟩
  · refine .inr ⟨g, cap, rfl, hB, cur, hg, by omega, hc, rfl, fun i hi => ?_⟩
    have h1 : (cur.toList.take (ts.length * 1))[i]? = some (.string (tnth ts i)) := by
      rw [htk, List.getElem?_map, List.getElem?_eq_getElem hi]
      simp [tnth, List.getD_eq_getElem?_getD, List.getElem?_eq_getElem hi]
    rw [List.getElem?_take] at h1
    split at h1
    · simpa using h1
    · cases h1
set_option maxHeartbeats 400000 in
theorem markNil_any (a : Nat) (w : World) : Calls Tryz.prog 79 #[.slice none 0 0, .int .i64 a] w fun e w' => e = .returned (.int .i64 (a : Int)) ∧ w' = w := by
  go_enter Tryz.func79, Tryz.ntmps79
  go_wp2_with fail
  go_loopw [1, 5] (fun k i wr => k = .int .i64 (a : Int) ∧ i = .int .i64 0 ∧ wr = w) (fun _ _ _ => 0)
  case atStart => exact ⟨rfl, rfl, rfl⟩
  case round =>
    obtain ⟨rfl, rfl, rfl⟩ := hrel
    go_wp2
    go_ret
    exact ⟨rfl, rfl⟩
set_option maxHeartbeats 800000 in
theorem markG_any (g n cap : Nat) (ts : List ByteArray) (a : Nat) (w : World) (h : RowG w g n cap ts) (ha : 0 < a) (ha2 : a ≤ 100) (hl : n ≤ 2000000) :
    Calls Tryz.prog 79 #[.slice (some ⟨g, 0, none⟩) n cap, .int .i64 a] w fun e w' => e = .returned (.int .i64 ((a : Int) + n)) ∧ RowG w' g n cap (tmarks a n) ∧ Kp w w' (.slice (some ⟨g, 0, none⟩) n n) (.slice (some ⟨g, 0, none⟩) n n) := by
  obtain ⟨A0, hg, hsz, hc, _, _⟩ := h
  have HG : Hid (w.heap[g]? = some (.cells A0 9 (0, 0)) ∧ n ≤ A0.size) := ⟨hg, hsz⟩
  have HC : Hid (n ≤ cap) := hc
  clear hg hsz hc
  go_enter Tryz.func79, Tryz.ntmps79
  go_wp2_with fail
  go_loopw [1, 5] (fun k i wr => ∃ (q : Nat) (A : Array Value), q ≤ n ∧ k = .int .i64 ((a : Int) + (q : Int)) ∧ i = .int .i64 q ∧ Hid (wr.heap[g]? = some (.cells A 9 (0, 0)) ∧ n ≤ A.size ∧ ∀ j, j < q → A[j]? = some (.string (mtext (a + j)))) ∧ Kp w wr (.slice (some ⟨g, 0, none⟩) n n) (.slice (some ⟨g, 0, none⟩) n n)) (fun _ i _ => n - (intOf i).toNat)
  case atStart => exact ⟨0, A0, by omega, by simp, rfl, ⟨HG.out.1, HG.out.2, fun j hj => absurd hj (by omega)⟩, Kp.refl _ _⟩
  case round =>
    obtain ⟨q, A, hq, rfl, rfl, HA, hk⟩ := hrel
    by_cases hlt : q < n
    · have EA : Hid ((a : Int) + (q : Int) = ((a + q : Nat) : Int)) := by show _ = _; omega
      go_wp2_with fail
      rw [EA.out]
      refine (markText_any (a + q) _ (by omega) (by omega)).mono ?_
      rintro e w2 ⟨rfl, b2⟩
      have hg2 : w2.heap[g]? = some (.cells A 9 (0, 0)) := (b2.block g (Array.getElem?_eq_some_iff.1 HA.out.1).1).trans HA.out.1
      have hqA : q < A.size := Nat.lt_of_lt_of_le hlt HA.out.2.1
      obtain ⟨x, hx⟩ : ∃ x, A[q]? = some x := ⟨_, Array.getElem?_eq_getElem hqA⟩
      obtain ⟨c1, f1⟩ := blk_cell hg2 q hx
      have hg3 := blk_set hg2 q (.string (mtext (a + q)))
      have HA' : Hid ((w2.setCell ⟨g, q, none⟩ (.string (mtext (a + q)))).heap[g]? = some (.cells (A.setIfInBounds q (.string (mtext (a + q)))) 9 (0, 0)) ∧ n ≤ (A.setIfInBounds q (.string (mtext (a + q)))).size ∧ ∀ j, j < q + 1 → (A.setIfInBounds q (.string (mtext (a + q))))[j]? = some (.string (mtext (a + j)))) := by
        refine ⟨hg3, by rw [Array.size_setIfInBounds]; exact HA.out.2.1, fun j hj => ?_⟩
        rw [Array.getElem?_setIfInBounds]
        by_cases e : q = j
        · subst e
          rw [if_pos rfl, if_pos hqA]
        · rw [if_neg e]
          exact HA.out.2.2 j (by omega)
      have hk2 := (hk.trans (Kp.of_below _ b2)).trans (kp_set (w := w2) (g := g) (n := n) q (.string (mtext (a + q))))
      clear hg2 hg3 hx b2 hqA
      go_wp2_with fail
      exact ⟨⟨q + 1, _, by omega, by go_num, by go_num, HA'.out, hk2⟩, by simp [intOf]; omega⟩
    · obtain rfl : q = n := by omega
      go_wp2
      go_ret
      refine ⟨rfl, ⟨A, HA.out.1, HA.out.2.1, HC.out, tmarks_length _ _, fun j hj => ?_⟩, hk⟩
      rw [tmarks_at a q j hj]
      exact HA.out.2.2 j hj

set_option maxHeartbeats 800000 in
theorem heldStringS_any (v : Value) (n a : Nat) (w : World) (h : RowT w v (tmarks a n)) (ha : 0 < a) (ha2 : a ≤ 100) (hl : n ≤ 2000000) :
    Calls Tryz.prog 80 #[v, .int .i64 a] w fun e w' => e = .returned (.int .i64 ((a : Int) + n)) ∧ Below w.heap.size w w' := by
  obtain ⟨ad, cap, rfl, h⟩ := h
  rw [tmarks_length] at h ⊢
  have h' : ∀ q, q < n → ∃ b off, ad = some ⟨b, off, none⟩ ∧ b < w.heap.size ∧ n ≤ cap ∧ w.cell? ⟨b, off + q, none⟩ = some (.string (mtext (a + q))) := by
    intro q hq
    rcases h with h | ⟨b, off, rfl, hc, hb, hcell⟩
    · have := congrArg List.length h; rw [tmarks_length] at this; simp at this; omega
    · exact ⟨b, off, rfl, hb, hc, by rw [hcell q hq, tmarks_at a n q hq]⟩
  have HH : Hid (_) := h'
  clear h h'
  go_enter Tryz.func80, Tryz.ntmps80
  go_wp2_with fail
  go_loopw [1, 5] (fun k i wr => ∃ q : Nat, q ≤ n ∧ k = .int .i64 ((a : Int) + (q : Int)) ∧ i = .int .i64 q ∧ Below w.heap.size w wr) (fun _ i _ => n - (intOf i).toNat)
  case atStart => exact ⟨0, by omega, by simp, rfl, Below.refl _ _⟩
  case round =>
    obtain ⟨q, hq, rfl, rfl, hbel⟩ := hrel
    by_cases hlt : q < n
    · have EA : Hid ((a : Int) + (q : Int) = ((a + q : Nat) : Int)) := by show _ = _; omega
      obtain ⟨b, off, rfl, hb, hc, hcell⟩ := HH.out q hlt
      have hc0 : wr.cell? ⟨b, off + q, none⟩ = some (.string (mtext (a + q))) := (hbel.cell (p := ⟨b, off + q, none⟩) hb).trans hcell
      have hbw : b < wr.heap.size := Nat.lt_of_lt_of_le hb hbel.size
      have hne : ((mtext (a + q)).toList == (mtext (a + q)).toList) = true := by simp
      have HT : Hid (∀ W : World, Calls Tryz.prog 107 #[.int .i64 ((a : Int) + (q : Int))] W fun e w' => e = .returned (.string (mtext (a + q))) ∧ Below W.heap.size W w') := fun W => by
        rw [EA.out]; exact markText_any (a + q) W (by omega) (by omega)
      clear hcell
      generalize mtext (a + q) = mt at hc0 hne HT
      have hp0 : (0 : Int) ≤ (q : Int) := by omega
      have hp1 : (q : Int) < (n : Int) := by omega
      go_wp2
      go_region_with (go_at_call 107; refine (HT.out _).mono ?_; rintro e w2 ⟨rfl, b2⟩; have b3 : Below wr.heap.size wr w2 := (ordB rfl b2).1; have c2 : w2.cell? ⟨b, off + q, none⟩ = some (.string mt) := (b3.cell (p := ⟨b, off + q, none⟩) hbw).trans hc0; have B2 : Below w.heap.size w w2 := hbel.trans (b3.mono hbel.size); clear b2 b3)
      all_goals go_wp2
      all_goals exact ⟨⟨q + 1, by omega, by go_num, by go_num, B2⟩, by simp [intOf]; omega⟩
    · obtain rfl : q = n := by omega
      go_wp2
      go_ret
      exact ⟨rfl, hbel⟩

/-- The marks of a list of the call's own. -/
theorem markOwn_any (v : Value) (ts : List ByteArray) (a B n : Nat) (w : World) (h : OwnS w B v ts) (hn : ts.length = n) (ha : 0 < a) (ha2 : a ≤ 100) (hl : n ≤ 1000) :
    Calls Tryz.prog 79 #[v, .int .i64 a] w fun e w' => e = .returned (.int .i64 ((a + n : Nat) : Int)) ∧ RowT w' v (tmarks a n) ∧ Kp w w' v v := by
  subst hn
  rcases own_open h with ⟨rfl, rfl⟩ | ⟨g, cap, rfl, _, hg⟩
  · refine (markNil_any a w).mono ?_
    rintro e w' ⟨rfl, e2⟩
    rw [e2]
    exact ⟨rfl, ⟨none, 0, rfl, .inl rfl⟩, Kp.refl _ _⟩
  · refine (markG_any g ts.length cap ts a w hg ha ha2 (by omega)).mono ?_
    rintro e w' ⟨rfl, h1, h2⟩
    refine ⟨by rw [Int.natCast_add], h1.row, ?_⟩
    exact ⟨h2.os, h2.tape, h2.output, h2.size, h2.block, h2.away⟩

set_option maxHeartbeats 400000 in
theorem eqStringS_same (v u : Value) (ts : List ByteArray) (w : World) (h : RowT w v ts) (g : RowT w u ts) (hl : ts.length ≤ 1048576) :
    Calls Tryz.prog 106 #[v, u] w fun e w' => e = .returned (.bool true) ∧ Below w.heap.size w w' := by
  obtain ⟨a, cap, rfl, h⟩ := h
  obtain ⟨a', cap', rfl, g⟩ := g
  have hne : ((ts.length : Int) != (ts.length : Int)) = false := by simp
  go_enter Tryz.func106, Tryz.ntmps106
  go_wp2_with fail
  go_loopw [5] (fun i wr => ∃ k : Nat, k ≤ ts.length ∧ i = .int .i64 k ∧ ∃ n, wr = w.drewN n) (fun i _ => ts.length - (intOf i).toNat)
  case atStart => exact ⟨0, by omega, rfl, 0, rfl⟩
  case round =>
    obtain ⟨k, hk, rfl, n, rfl⟩ := hrel
    by_cases hlt : k < ts.length
    · rcases h with h | ⟨b, off, rfl, hc, hb, hcell⟩
      · exact absurd hlt (by rw [h]; simp)
      rcases g with g | ⟨b', off', rfl, hc', hb', gcell⟩
      · exact absurd hlt (by rw [g]; simp)
      have hc1 := hcell k hlt
      have hc2 := gcell k hlt
      have hp0 : (0 : Int) ≤ (k : Int) := by omega
      have hp1 : (k : Int) < (ts.length : Int) := by omega
      clear hcell gcell
      go_wp2
      go_quiet (fail)
      go_wp2
      exact ⟨⟨k + 1, by omega, by go_num, n + nq, rfl⟩, by simp [intOf]; omega⟩
    · go_wp2
      go_ret
      exact ⟨rfl, ⟨rfl, rfl, rfl, Nat.le_refl _, fun _ _ => rfl⟩⟩
end Go.Proofs.YtiflfcpoajijaaaGreatDoor.Mk

/- The laws' helpers on signatures: compared, marked, held. -/
namespace Go.Proofs.YtiflfcpoajijaaaGreatDoor.Sq
open Go.RowKit Go.Proofs.YtiflfcpoajijaaaGreatDoor.Sl Go.Proofs.YtiflfcpoajijaaaGreatDoor.By Go.Proofs.YtiflfcpoajijaaaGreatDoor.Ap Go.Proofs.YtiflfcpoajijaaaGreatDoor.Tx Go.Proofs.YtiflfcpoajijaaaGreatDoor.Mk Go.Proofs.YtiflfcpoajijaaaGreatDoor.Sg

def sigBlk (i : Int) (va vb vc : Value) : Obj := .cells #[.int .i64 i, va, vb, vc] 37
theorem sig_new (w : World) (i : Int) (va vb vc : Value) : (w.alloc (sigBlk i va vb vc)).heap[w.heap.size]? = some (.cells #[.int .i64 i, va, vb, vc] 37 (0, 0)) := blk_new _ _ _
/-- A row's value is a slice. -/
theorem RowT.form {w : World} {v : Value} {ts : List ByteArray} (h : RowT w v ts) : ∃ a c, v = .slice a ts.length c := by obtain ⟨a, c, e, _⟩ := h; exact ⟨a, c, e⟩

set_option maxRecDepth 100000 in
set_option maxHeartbeats 800000 in
theorem eqSig_same (i : Int) (va vb vc ua ub uc : Value) (ta tb tc : List ByteArray) (w : World) (ha : RowT w va ta) (hb : RowT w vb tb) (hc : RowT w vc tc) (ga : RowT w ua ta) (gb : RowT w ub tb) (gc : RowT w uc tc) (la : ta.length ≤ 1000) (lb : tb.length ≤ 1000) (lc : tc.length ≤ 1000) :
    Calls Tryz.prog 78 #[.agg #[.int .i64 i, va, vb, vc], .agg #[.int .i64 i, ua, ub, uc]] w fun e w' => e = .returned (.bool true) ∧ Below w.heap.size w w' := by
  have HR : Hid (RowT w va ta ∧ RowT w vb tb ∧ RowT w vc tc ∧ RowT w ua ta ∧ RowT w ub tb ∧ RowT w uc tc) := ⟨ha, hb, hc, ga, gb, gc⟩
  have HL : Hid (ta.length ≤ 1048576 ∧ tb.length ≤ 1048576 ∧ tc.length ≤ 1048576) := ⟨by omega, by omega, by omega⟩
  have hi : (i != i) = false := by simp
  have X1 := sig_new w i va vb vc
  have X2 := sig_new (w.alloc (sigBlk i va vb vc)) i ua ub uc
  have X1' := (Below.heap_alloc (w.alloc (sigBlk i va vb vc)) (sigBlk i ua ub uc) w.heap.size (by rw [size_new]; omega)).trans X1
  rw [size_new] at X2
  have B0 : Below w.heap.size w ((w.alloc (sigBlk i va vb vc)).alloc (sigBlk i ua ub uc)) := (bel_new w _).trans ((bel_new _ _).mono (by rw [size_new]; omega))
  have HS : ((w.alloc (sigBlk i va vb vc)).alloc (sigBlk i ua ub uc)).heap.size = w.heap.size + 1 + 1 := by rw [size_new, size_new]
  obtain ⟨a1, c1, rfl⟩ := RowT.form ha
  obtain ⟨a2, c2, rfl⟩ := RowT.form hb
  obtain ⟨a3, c3, rfl⟩ := RowT.form hc
  obtain ⟨d1, f1, rfl⟩ := RowT.form ga
  obtain ⟨d2, f2, rfl⟩ := RowT.form gb
  obtain ⟨d3, f3, rfl⟩ := RowT.form gc
  have HX : Hid (∀ W, Below w.heap.size w W → Below (w.heap.size + 1 + 1) ((w.alloc (sigBlk i (.slice a1 ta.length c1) (.slice a2 tb.length c2) (.slice a3 tc.length c3))).alloc (sigBlk i (.slice d1 ta.length f1) (.slice d2 tb.length f2) (.slice d3 tc.length f3))) W →
      (W.heap[w.heap.size]? = some (.cells #[.int .i64 i, .slice a1 ta.length c1, .slice a2 tb.length c2, .slice a3 tc.length c3] 37 (0, 0)) ∧ W.heap[w.heap.size + 1]? = some (.cells #[.int .i64 i, .slice d1 ta.length f1, .slice d2 tb.length f2, .slice d3 tc.length f3] 37 (0, 0)))) := fun W _ hW => ⟨(hW.block _ (by omega)).trans X1', (hW.block _ (by omega)).trans X2⟩
  have HB : Hid (Below w.heap.size w ((w.alloc (sigBlk i (.slice a1 ta.length c1) (.slice a2 tb.length c2) (.slice a3 tc.length c3))).alloc (sigBlk i (.slice d1 ta.length f1) (.slice d2 tb.length f2) (.slice d3 tc.length f3))) ∧ ((w.alloc (sigBlk i (.slice a1 ta.length c1) (.slice a2 tb.length c2) (.slice a3 tc.length c3))).alloc (sigBlk i (.slice d1 ta.length f1) (.slice d2 tb.length f2) (.slice d3 tc.length f3))).heap.size = w.heap.size + 1 + 1) := ⟨B0, HS⟩
  clear X1 X1' X2 B0 HS ha hb hc ga gb gc la lb lc
  unfold sigBlk at HX HB
  go_enter Tryz.func78, Tryz.ntmps78
  go_wp2_with fail
  refine (eqStringS_same _ _ ta _ (HR.out.1.below HB.out.1) (HR.out.2.2.2.1.below HB.out.1) HL.out.1).mono ?_
  rintro e w1 ⟨rfl, b1⟩
  rw [HB.out.2] at b1
  have g1 := HB.out.1.trans (b1.mono (by omega))
  obtain ⟨z1, z2⟩ := HX.out w1 g1 b1
  have p1 := (blk_cell z1 2 (x := .slice a2 tb.length c2) rfl).1
  have p2 := (blk_cell z2 2 (x := .slice d2 tb.length f2) rfl).1
  have p3 := (blk_cell z1 3 (x := .slice a3 tc.length c3) rfl).1
  have p4 := (blk_cell z2 3 (x := .slice d3 tc.length f3) rfl).1
  have B1 : Hid (Below (w.heap.size + 1 + 1) _ w1 ∧ Below w.heap.size w w1 ∧ w.heap.size + 1 + 1 ≤ w1.heap.size) := ⟨b1, g1, by have := b1.size; rw [HB.out.2] at this; exact this⟩
  clear b1 g1 z1 z2
  go_wp2_with fail
  refine (eqStringS_same _ _ tb _ (HR.out.2.1.below B1.out.2.1) (HR.out.2.2.2.2.1.below B1.out.2.1) HL.out.2.1).mono ?_
  rintro e w2 ⟨rfl, b2⟩
  have g2 := B1.out.2.1.trans (b2.mono B1.out.2.1.size)
  have h2 := B1.out.1.trans (b2.mono B1.out.2.2)
  obtain ⟨z1, z2⟩ := HX.out w2 g2 h2
  clear p1 p2 p3 p4
  have p3 := (blk_cell z1 3 (x := .slice a3 tc.length c3) rfl).1
  have p4 := (blk_cell z2 3 (x := .slice d3 tc.length f3) rfl).1
  have B2 : Hid (Below w.heap.size w w2) := g2
  clear b2 g2 h2 z1 z2
  go_wp2_with fail
  refine (eqStringS_same _ _ tc _ (HR.out.2.2.1.below B2.out) (HR.out.2.2.2.2.2.below B2.out) HL.out.2.2).mono ?_
  rintro e w3 ⟨rfl, b3⟩
  have g3 := B2.out.trans (b3.mono B2.out.size)
  clear b3
  go_wp2_with fail
  go_ret
  exact ⟨rfl, g3⟩

/-- What the marks leave: three marked lists. -/
structure SigM (w : World) (va vb vc : Value) (a na nb nc : Nat) : Prop where
  ra : RowT w va (tmarks a na)
  rb : RowT w vb (tmarks (a + na) nb)
  rc : RowT w vc (tmarks (a + na + nb) nc)
theorem SigM.below {w w' : World} {va vb vc : Value} {a na nb nc : Nat} (h : SigM w va vb vc a na nb nc) (hb : Below w.heap.size w w') : SigM w' va vb vc a na nb nc := ⟨h.ra.below hb, h.rb.below hb, h.rc.below hb⟩

theorem held_any (v : Value) (n a : Nat) (w : World) (h : RowT w v (tmarks a n)) (ha : 0 < a) (ha2 : a ≤ 100) (hl : n ≤ 2000000) :
    Calls Tryz.prog 80 #[v, .int .i64 a] w fun e w' => e = .returned (.int .i64 ((a + n : Nat) : Int)) ∧ Below w.heap.size w w' := by
  rw [Int.natCast_add]
  exact heldStringS_any v n a w h ha ha2 hl
end Go.Proofs.YtiflfcpoajijaaaGreatDoor.Sq

/- The laws' helpers on signatures of any size: sized, copied, compared. -/
namespace Go.Proofs.YtiflfcpoajijaaaGreatDoor.Sz
open Go.RowKit Go.Proofs.YtiflfcpoajijaaaGreatDoor.Sl Go.Proofs.YtiflfcpoajijaaaGreatDoor.By Go.Proofs.YtiflfcpoajijaaaGreatDoor.Ap Go.Proofs.YtiflfcpoajijaaaGreatDoor.Tx Go.Proofs.YtiflfcpoajijaaaGreatDoor.Mk Go.Proofs.YtiflfcpoajijaaaGreatDoor.Sg Go.Proofs.YtiflfcpoajijaaaGreatDoor.Sq

/-- Texts whose sizes add up. -/
def szT (ts : List ByteArray) (k : Nat) : Nat := ((ts.take k).map ByteArray.size).sum
theorem szT_succ (ts : List ByteArray) (k : Nat) (h : k < ts.length) : szT ts (k + 1) = szT ts k + (tnth ts k).size := by
  unfold szT tnth
  rw [List.take_add_one, List.getElem?_eq_getElem h, Option.toList_some, List.map_append, List.sum_append, List.getD_eq_getElem?_getD, List.getElem?_eq_getElem h]
  simp only [List.map_cons, List.map_nil, List.sum_cons, List.sum_nil, Option.getD_some, Nat.add_zero]
theorem szT_mono (ts : List ByteArray) {a b : Nat} (h : a ≤ b) : szT ts a ≤ szT ts b := by
  induction b with
  | zero => have : a = 0 := by omega
            subst this; exact Nat.le_refl _
  | succ b ih =>
    by_cases e : a = b + 1
    · subst e; exact Nat.le_refl _
    · have := ih (by omega)
      by_cases hb : b < ts.length
      · rw [szT_succ ts b hb]; omega
      · have e1 : szT ts (b + 1) = szT ts b := by unfold szT; rw [List.take_of_length_le (by omega), List.take_of_length_le (by omega)]
        rw [e1]; exact this

def tot (ts : List ByteArray) : Nat := ts.length + szT ts ts.length
def lfT (left : Int) (ts : List ByteArray) : Int := if left < (tot ts : Int) then -1 else left - (tot ts : Int)
/-- A slice of texts in a block of its own, behind B. -/
def OwnT (w : World) (B : Nat) (v : Value) (ts : List ByteArray) : Prop :=
  ∃ g A, v = .slice (some ⟨g, 0, none⟩) ts.length ts.length ∧ B ≤ g ∧ w.heap[g]? = some (.cells A 9 (0, 0)) ∧ A.size = ts.length ∧ ∀ j, j < ts.length → A[j]? = some (.string (tnth ts j))
theorem OwnT.row {w : World} {B : Nat} {v : Value} {ts : List ByteArray} (h : OwnT w B v ts) : RowT w v ts := by
  obtain ⟨g, A, rfl, hB, hg, hs, hA⟩ := h
  refine ⟨_, _, rfl, .inr ⟨g, 0, rfl, Nat.le_refl _, (Array.getElem?_eq_some_iff.1 hg).1, fun i hi => ?_⟩⟩
  rw [Nat.zero_add, Joins.cell_of_block hg i]
  exact hA i hi
theorem OwnT.below {w w' : World} {B : Nat} {v : Value} {ts : List ByteArray} (h : OwnT w B v ts) (hb : Below w.heap.size w w') : OwnT w' B v ts := by
  obtain ⟨g, A, rfl, hB, hg, hs, hA⟩ := h
  exact ⟨g, A, rfl, hB, (hb.block g (Array.getElem?_eq_some_iff.1 hg).1).trans hg, hs, hA⟩

def Copied (ts : List ByteArray) (k : Nat) (A : Array Value) : Prop := A.size = ts.length ∧ ∀ j, j < k → A[j]? = some (.string (tnth ts j))
/-- The budget of a signature's lists. -/
def lf3 (ta tb tc : List ByteArray) : Int := if lfT 1048576 ta < 0 then -1 else if lfT (lfT 1048576 ta) tb < 0 then -1 else if lfT (lfT (lfT 1048576 ta) tb) tc < 0 then -1 else lfT (lfT (lfT 1048576 ta) tb) tc
theorem lfT_le {left : Int} {ts : List ByteArray} (h1 : left ≤ 1048576) (h0 : 0 ≤ left) : lfT left ts ≤ 1048576 ∧ (0 ≤ lfT left ts → (ts.length : Int) ≤ 1048576 ∧ lfT left ts = left - tot ts) ∧ (lfT left ts < 0 → lfT left ts = -1) := by
  unfold lfT tot
  split
  · exact ⟨by omega, fun h => by omega, fun _ => rfl⟩
  · exact ⟨by omega, fun h => ⟨by omega, rfl⟩, fun h => by omega⟩
theorem row_far {w : World} {p j : Nat} {v x : Value} {ts : List ByteArray} (h : RowT w v ts) (hp : ∀ k, v.ownBlock = some k → k ≠ p) : RowT (w.setCell ⟨p, j, none⟩ x) v ts := by
  obtain ⟨a, cap, rfl, h⟩ := h
  refine ⟨a, cap, rfl, ?_⟩
  rcases h with h | ⟨b, off, rfl, hc, hlt, h⟩
  · exact .inl h
  · exact .inr ⟨b, off, rfl, hc, by simpa using hlt, fun i hi => (World.cell?_of_block (a := ⟨b, off + i, none⟩) (blk_far (hp b rfl) j x)).trans (h i hi)⟩
theorem at_far {g p n c : Nat} (h : g ≠ p) : ∀ k, (Value.slice (some ⟨g, 0, none⟩) n c).ownBlock = some k → k ≠ p := fun k h1 => by
  have e1 : g = k := Option.some.inj h1
  omega
set_option maxRecDepth 100000 in
set_option maxHeartbeats 800000 in
theorem eqSig_big (i : Int) (va vb vc ua ub uc : Value) (ta tb tc : List ByteArray) (w : World) (ha : RowT w va ta) (hb : RowT w vb tb) (hc : RowT w vc tc) (ga : RowT w ua ta) (gb : RowT w ub tb) (gc : RowT w uc tc) (la : ta.length ≤ 1048576) (lb : tb.length ≤ 1048576) (lc : tc.length ≤ 1048576) :
    Calls Tryz.prog 78 #[.agg #[.int .i64 i, va, vb, vc], .agg #[.int .i64 i, ua, ub, uc]] w fun e w' => e = .returned (.bool true) ∧ Below w.heap.size w w' := by
  have HR : Hid (RowT w va ta ∧ RowT w vb tb ∧ RowT w vc tc ∧ RowT w ua ta ∧ RowT w ub tb ∧ RowT w uc tc) := ⟨ha, hb, hc, ga, gb, gc⟩
  have HL : Hid (ta.length ≤ 1048576 ∧ tb.length ≤ 1048576 ∧ tc.length ≤ 1048576) := ⟨by omega, by omega, by omega⟩
  have hi : (i != i) = false := by simp
  have X1 := sig_new w i va vb vc
  have X2 := sig_new (w.alloc (sigBlk i va vb vc)) i ua ub uc
  have X1' := (Below.heap_alloc (w.alloc (sigBlk i va vb vc)) (sigBlk i ua ub uc) w.heap.size (by rw [size_new]; omega)).trans X1
  rw [size_new] at X2
  have B0 : Below w.heap.size w ((w.alloc (sigBlk i va vb vc)).alloc (sigBlk i ua ub uc)) := (bel_new w _).trans ((bel_new _ _).mono (by rw [size_new]; omega))
  have HS : ((w.alloc (sigBlk i va vb vc)).alloc (sigBlk i ua ub uc)).heap.size = w.heap.size + 1 + 1 := by rw [size_new, size_new]
  obtain ⟨a1, c1, rfl⟩ := RowT.form ha
  obtain ⟨a2, c2, rfl⟩ := RowT.form hb
  obtain ⟨a3, c3, rfl⟩ := RowT.form hc
  obtain ⟨d1, f1, rfl⟩ := RowT.form ga
  obtain ⟨d2, f2, rfl⟩ := RowT.form gb
  obtain ⟨d3, f3, rfl⟩ := RowT.form gc
  have HX : Hid (∀ W, Below w.heap.size w W → Below (w.heap.size + 1 + 1) ((w.alloc (sigBlk i (.slice a1 ta.length c1) (.slice a2 tb.length c2) (.slice a3 tc.length c3))).alloc (sigBlk i (.slice d1 ta.length f1) (.slice d2 tb.length f2) (.slice d3 tc.length f3))) W →
      (W.heap[w.heap.size]? = some (.cells #[.int .i64 i, .slice a1 ta.length c1, .slice a2 tb.length c2, .slice a3 tc.length c3] 37 (0, 0)) ∧ W.heap[w.heap.size + 1]? = some (.cells #[.int .i64 i, .slice d1 ta.length f1, .slice d2 tb.length f2, .slice d3 tc.length f3] 37 (0, 0)))) := fun W _ hW => ⟨(hW.block _ (by omega)).trans X1', (hW.block _ (by omega)).trans X2⟩
  have HB : Hid (Below w.heap.size w ((w.alloc (sigBlk i (.slice a1 ta.length c1) (.slice a2 tb.length c2) (.slice a3 tc.length c3))).alloc (sigBlk i (.slice d1 ta.length f1) (.slice d2 tb.length f2) (.slice d3 tc.length f3))) ∧ ((w.alloc (sigBlk i (.slice a1 ta.length c1) (.slice a2 tb.length c2) (.slice a3 tc.length c3))).alloc (sigBlk i (.slice d1 ta.length f1) (.slice d2 tb.length f2) (.slice d3 tc.length f3))).heap.size = w.heap.size + 1 + 1) := ⟨B0, HS⟩
  clear X1 X1' X2 B0 HS ha hb hc ga gb gc la lb lc
  unfold sigBlk at HX HB
  go_enter Tryz.func78, Tryz.ntmps78
  go_wp2_with fail
  refine (eqStringS_same _ _ ta _ (HR.out.1.below HB.out.1) (HR.out.2.2.2.1.below HB.out.1) HL.out.1).mono ?_
  rintro e w1 ⟨rfl, b1⟩
  rw [HB.out.2] at b1
  have g1 := HB.out.1.trans (b1.mono (by omega))
  obtain ⟨z1, z2⟩ := HX.out w1 g1 b1
  have p1 := (blk_cell z1 2 (x := .slice a2 tb.length c2) rfl).1
  have p2 := (blk_cell z2 2 (x := .slice d2 tb.length f2) rfl).1
  have p3 := (blk_cell z1 3 (x := .slice a3 tc.length c3) rfl).1
  have p4 := (blk_cell z2 3 (x := .slice d3 tc.length f3) rfl).1
  have B1 : Hid (Below (w.heap.size + 1 + 1) _ w1 ∧ Below w.heap.size w w1 ∧ w.heap.size + 1 + 1 ≤ w1.heap.size) := ⟨b1, g1, by have := b1.size; rw [HB.out.2] at this; exact this⟩
  clear b1 g1 z1 z2
  go_wp2_with fail
  refine (eqStringS_same _ _ tb _ (HR.out.2.1.below B1.out.2.1) (HR.out.2.2.2.2.1.below B1.out.2.1) HL.out.2.1).mono ?_
  rintro e w2 ⟨rfl, b2⟩
  have g2 := B1.out.2.1.trans (b2.mono B1.out.2.1.size)
  have h2 := B1.out.1.trans (b2.mono B1.out.2.2)
  obtain ⟨z1, z2⟩ := HX.out w2 g2 h2
  clear p1 p2 p3 p4
  have p3 := (blk_cell z1 3 (x := .slice a3 tc.length c3) rfl).1
  have p4 := (blk_cell z2 3 (x := .slice d3 tc.length f3) rfl).1
  have B2 : Hid (Below w.heap.size w w2) := g2
  clear b2 g2 h2 z1 z2
  go_wp2_with fail
  refine (eqStringS_same _ _ tc _ (HR.out.2.2.1.below B2.out) (HR.out.2.2.2.2.2.below B2.out) HL.out.2.2).mono ?_
  rintro e w3 ⟨rfl, b3⟩
  have g3 := B2.out.trans (b3.mono B2.out.size)
  clear b3
  go_wp2_with fail
  go_ret
  exact ⟨rfl, g3⟩

end Go.Proofs.YtiflfcpoajijaaaGreatDoor.Sz
