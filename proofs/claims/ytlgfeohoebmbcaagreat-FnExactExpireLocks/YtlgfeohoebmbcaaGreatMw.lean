/- The laws' marks on tables. -/
import Derived.Test.YtlgfeohoebmbcaaGreatTw4
import Derived.Deep.RegionWith
namespace Go.Proofs.YtlgfeohoebmbcaaGreat.Mw
open Go.RowKit Go.Proofs.YtlgfeohoebmbcaaGreat.Sl Go.Proofs.YtlgfeohoebmbcaaGreat.By Go.Proofs.YtlgfeohoebmbcaaGreat.Ap Go.Proofs.YtlgfeohoebmbcaaGreat.Tx Go.Proofs.YtlgfeohoebmbcaaGreat.Tb Go.Proofs.YtlgfeohoebmbcaaGreat.Tw

theorem ret_str {a b : ByteArray} (h : a = b) : Ending.returned (.string a) = .returned (.string b) := by rw [h]
/-- The digits of a number, ahead of a text. -/
def mtGo : Nat → Nat → ByteArray → ByteArray
  | 0, _, s => s
  | f + 1, k, s => if k = 0 then s else mtGo f (k / 10) (strOfNums [48 + ((k % 10 : Nat) : Int)] ++ s)
def mtext (k : Nat) : ByteArray := (⟨#[109]⟩ : ByteArray) ++ mtGo (k + 1) k ⟨#[]⟩

set_option maxRecDepth 100000 in
set_option maxHeartbeats 400000 in
theorem markText_any (k : Nat) (w : World) (h0 : 0 < k) (h1 : k ≤ 1125899906842624) :
    Calls Tryz.prog 62 #[.int .i64 k] w fun e w' => e = .returned (.string (mtext k)) ∧ Below w.heap.size w w' := by
  have h0' : ¬ (k : Int) ≤ 0 := by omega
  have h1' : (k : Int) ≤ 1125899906842624 := by omega
  have HT : Hid (mtext k = (⟨#[109]⟩ : ByteArray) ++ mtGo (k + 1) k ⟨#[]⟩) := rfl
  go_enter Tryz.func62, Tryz.ntmps62
  go_wp2_with fail
  go_loopw [0, 3] (fun n s wr => ∃ (q f : Nat) (t : ByteArray), n = .int .i64 q ∧ s = .string t ∧ q ≤ 1125899906842624 ∧ t.size + q ≤ 1125899906842624 ∧ Hid (q < f ∧ mtGo f q t = mtGo (k + 1) k ⟨#[]⟩) ∧ Below w.heap.size w wr) (fun n _ _ => (intOf n).toNat)
  case atStart => exact ⟨k, k + 1, ⟨#[]⟩, rfl, rfl, by omega, by simp [ByteArray.size]; omega, ⟨by omega, rfl⟩, Below.refl _ _⟩
  case round =>
    obtain ⟨q, f, t, rfl, rfl, hq, hts, HF, hbel⟩ := hrel
    by_cases hz : 0 < q
    · have hz' : (0 : Int) < (q : Int) := by omega
      have hcv := By.run_convert_own (P := Tryz.prog) (wr.alloc (.cells #[.int .u8 (48 + (q : Int) % 10)] 5)) wr.heap.size 135 5 9 Tryz.underlying135 Tryz.underlying5 Tryz.underlying9 (.slice (some ⟨wr.heap.size, 0, none⟩) 1 1) [48 + (q : Int) % 10] (own_one 5 wr wr.heap.size (48 + (q : Int) % 10) (Nat.le_refl _))
      have hs1 : (strOfNums [48 + (q : Int) % 10]).size = 1 := by rw [strOfNums_size]; rfl
      have hsz : ¬ 9223372036854775807 < (strOfNums [48 + (q : Int) % 10]).size + t.size := by rw [hs1]; omega
      have HS1 : Hid ((strOfNums [48 + (q : Int) % 10]).size = 1) := hs1
      have HE : Hid (∃ f', q / 10 < f' ∧ mtGo f' (q / 10) (strOfNums [48 + (q : Int) % 10] ++ t) = mtGo (k + 1) k ⟨#[]⟩) := by
        obtain ⟨e1, e2⟩ := HF.out
        cases f with
        | zero => omega
        | succ f =>
          refine ⟨f, by omega, ?_⟩
          rw [← e2]
          show _ = if q = 0 then t else mtGo f (q / 10) (strOfNums [48 + ((q % 10 : Nat) : Int)] ++ t)
          rw [if_neg (by omega)]
          rfl
      clear hs1 HF
      go_wp2_with fail
      obtain ⟨f', e1, e2⟩ := HE.out
      exact ⟨⟨q / 10, f', strOfNums [48 + (q : Int) % 10] ++ t, by simp, rfl, by omega, by rw [ByteArray.size_append, HS1.out]; omega, ⟨e1, e2⟩, hbel.alloc hbel.size _⟩, by simp [intOf]; omega⟩
    · have hz0 : q = 0 := by omega
      have HE : Hid (mtGo (k + 1) k ⟨#[]⟩ = t) := by
        show _ = _
        obtain ⟨e1, e2⟩ := HF.out
        rw [← e2, hz0]
        cases f with
        | zero => rfl
        | succ f => rfl
      have hz' : ¬ (0 : Int) < (q : Int) := by omega
      have hz2 : ¬ 0 < q := hz
      have hsz2 : ¬ 9223372036854775807 < 1 + t.size := by omega
      have hsz3 : ¬ 9223372036854775807 < (⟨#[109]⟩ : ByteArray).size + t.size := hsz2
      clear hz0
      go_wp2
      go_ret
      exact ⟨ret_str (by rw [HT.out, HE.out]), hbel⟩

/-- From w to w' only blocks from B on and below C were written, and new ones. -/
structure Mid (B C : Nat) (w w' : World) : Prop where
  os : w'.os = w.os
  tape : w'.tape = w.tape
  output : w'.output = w.output
  size : w.heap.size ≤ w'.heap.size
  block : ∀ k, k < w.heap.size → (k < B ∨ C ≤ k) → w'.heap[k]? = w.heap[k]?
theorem Mid.refl (B C : Nat) (w : World) : Mid B C w w := ⟨rfl, rfl, rfl, Nat.le_refl _, fun _ _ _ => rfl⟩
theorem Mid.trans {B C : Nat} {w w1 w2 : World} (h : Mid B C w w1) (g : Mid B C w1 w2) : Mid B C w w2 :=
  ⟨g.os.trans h.os, g.tape.trans h.tape, g.output.trans h.output, Nat.le_trans h.size g.size, fun k hk hn => (g.block k (Nat.lt_of_lt_of_le hk h.size) hn).trans (h.block k hk hn)⟩
theorem Mid.of_below {B C : Nat} {w w1 : World} (h : Below w.heap.size w w1) : Mid B C w w1 := ⟨h.os, h.tape, h.output, h.size, fun k hk _ => h.block k hk⟩
theorem Mid.set {B C : Nat} {w : World} {g : Nat} (h1 : B ≤ g) (h2 : g < C) (j : Nat) (x : Value) : Mid B C w (w.setCell ⟨g, j, none⟩ x) :=
  ⟨rfl, rfl, rfl, by simp, fun k _ hk => Below.heap_setCell w ⟨g, j, none⟩ x k (fun e => by have e' : k = g := e; omega)⟩
theorem Mid.below {B C : Nat} {w w1 : World} (h : Mid B C w w1) (hB : B ≤ w.heap.size) : Below B w w1 := ⟨h.os, h.tape, h.output, h.size, fun k hk => h.block k (Nat.lt_of_lt_of_le hk hB) (.inl hk)⟩
theorem own_mid {e : TypeId} {B C : Nat} {w w' : World} {v : Value} {zs : List Int} (h : OwnB e w C v zs) (hm : Mid B C w w') : OwnB e w' C v zs := by
  obtain ⟨hl, h⟩ := h
  refine ⟨hl, ?_⟩
  rcases h with h | ⟨g, cap, cur, rfl, h1, hg, h2⟩
  · exact .inl h
  · exact .inr ⟨g, cap, cur, rfl, h1, (hm.block g (Array.getElem?_eq_some_iff.1 hg).1 (.inr h1)).trans hg, h2⟩
/-- A block of n cells that may be written. -/
def Wr (w : World) (g n : Nat) : Prop := ∃ A t, w.heap[g]? = some (.cells A t (0, 0)) ∧ n ≤ A.size
theorem Wr.lt {w : World} {g n : Nat} (h : Wr w g n) : g < w.heap.size := by obtain ⟨A, t, h, _⟩ := h; exact (Array.getElem?_eq_some_iff.1 h).1
theorem Wr.below {w w' : World} {g n : Nat} (h : Wr w g n) (hb : Below w.heap.size w w') : Wr w' g n := by
  obtain ⟨A, t, h, hn⟩ := h
  exact ⟨A, t, (hb.block g (Array.getElem?_eq_some_iff.1 h).1).trans h, hn⟩
theorem Wr.set {w : World} {g n : Nat} (h : Wr w g n) (p j : Nat) (x : Value) : Wr (w.setCell ⟨p, j, none⟩ x) g n := by
  obtain ⟨A, t, h, hn⟩ := h
  by_cases e : p = g
  · subst e
    exact ⟨_, t, blk_set h j x, by rw [Array.size_setIfInBounds]; exact hn⟩
  · exact ⟨A, t, (blk_far (fun h => e h.symm) j x).trans h, hn⟩
theorem Wr.cell {w : World} {g n : Nat} (h : Wr w g n) {j : Nat} (hj : j < n) : (∃ x, w.cell? ⟨g, j, none⟩ = some x) ∧ w.frozen? ⟨g, j, none⟩ = false := by
  obtain ⟨A, t, h, hn⟩ := h
  obtain ⟨c, f⟩ := blk_cell h j (x := A[j]'(by omega)) (Array.getElem?_eq_getElem (by omega))
  exact ⟨⟨_, c⟩, f⟩
/-- What a mark keeps of the blocks that may be written. -/
def Kw (w w' : World) : Prop := ∀ g n, Wr w g n → Wr w' g n
theorem Kw.trans {w w1 w2 : World} (h : Kw w w1) (g : Kw w1 w2) : Kw w w2 := fun a n x => g a n (h a n x)
set_option maxRecDepth 100000 in
set_option maxHeartbeats 800000 in
theorem markWaiterS_any (g n : Nat) (a : Nat) (B C : Nat) (w : World) (h : Wr w g (n * 2)) (hB : B ≤ g) (hC : g < C) (hn : n ≤ 1048576) (ha : a ≤ 1000000000000000) :
    Calls Tryz.prog 79 #[.slice (some ⟨g, 0, none⟩) n n, .int .i64 a] w fun e w' => e = .returned (.int .i64 ((a + n * 2 : Nat) : Int)) ∧ Mid B C w w' ∧ Kw w w' ∧ (∀ k, k < w.heap.size → k ≠ g → w'.heap[k]? = w.heap[k]?) := by
  have H : Hid (Wr w g (n * 2)) := h
  clear h
  go_enter Tryz.func79, Tryz.ntmps79
  go_wp2_with fail
  go_loopw [1, 5] (fun k i wr => ∃ q : Nat, q ≤ n ∧ k = .int .i64 ((a + q * 2 : Nat) : Int) ∧ i = .int .i64 q ∧ Hid (Wr wr g (n * 2) ∧ Mid B C w wr ∧ Kw w wr ∧ (∀ k, k < w.heap.size → k ≠ g → wr.heap[k]? = w.heap[k]?))) (fun _ i _ => n - (intOf i).toNat)
  case atStart => exact ⟨0, by omega, by simp, rfl, H.out, Mid.refl _ _ _, fun _ _ h => h, fun _ _ _ => rfl⟩
  case round =>
    obtain ⟨q, hq, rfl, rfl, HA⟩ := hrel
    by_cases hlt : q < n
    · obtain ⟨⟨x0, c0⟩, f0⟩ := HA.out.1.cell (j := q * 2) (by omega)
      obtain ⟨⟨x1, c1⟩, f1⟩ := HA.out.1.cell (j := q * 2 + 1) (by omega)
      have hne : (⟨g, q * 2 + 1, none⟩ : Addr) ≠ ⟨g, q * 2, none⟩ := fun e => by have e' : q * 2 + 1 = q * 2 := congrArg Addr.off e; omega
      go_wp2_with fail
      refine ⟨⟨q + 1, by omega, by go_num, by go_num, (HA.out.1.set _ _ _).set _ _ _, HA.out.2.1.trans ((Mid.set hB hC _ _).trans (Mid.set hB hC _ _)), HA.out.2.2.1.trans fun _ _ h => (h.set _ _ _).set _ _ _, fun k hk hk2 => ?_⟩, by simp [intOf]; omega⟩
      exact ((blk_far hk2 _ _).trans (blk_far hk2 _ _)).trans (HA.out.2.2.2 k hk hk2)
    · obtain rfl : q = n := by omega
      go_wp2_with fail
      go_ret
      exact ⟨rfl, HA.out.2.1, HA.out.2.2.1, HA.out.2.2.2⟩
set_option maxRecDepth 100000 in
set_option maxHeartbeats 1600000 in
theorem markSeenS_any (g n : Nat) (a : Nat) (B C : Nat) (w : World) (h : Wr w g (n * 6)) (hB : B ≤ g) (hC : g < C) (hn : n ≤ 1048576) (ha : a ≤ 1000000000000000) :
    Calls Tryz.prog 51 #[.slice (some ⟨g, 0, none⟩) n n, .int .i64 a] w fun e w' => e = .returned (.int .i64 ((a + n * 6 : Nat) : Int)) ∧ Mid B C w w' := by
  have H : Hid (Wr w g (n * 6)) := h
  clear h
  go_enter Tryz.func51, Tryz.ntmps51
  go_wp2_with fail
  go_loopw [1, 5] (fun k i wr => ∃ q : Nat, q ≤ n ∧ k = .int .i64 ((a + q * 6 : Nat) : Int) ∧ i = .int .i64 q ∧ Hid (Wr wr g (n * 6) ∧ Mid B C w wr)) (fun _ i _ => n - (intOf i).toNat)
  case atStart => exact ⟨0, by omega, by simp, rfl, H.out, Mid.refl _ _ _⟩
  case round =>
    obtain ⟨q, hq, rfl, rfl, HA⟩ := hrel
    by_cases hlt : q < n
    · obtain ⟨⟨x0, c0⟩, f0⟩ := HA.out.1.cell (j := q * 6) (by omega)
      obtain ⟨⟨x1, c1⟩, f1⟩ := HA.out.1.cell (j := q * 6 + 1) (by omega)
      obtain ⟨⟨x2, c2⟩, f2⟩ := HA.out.1.cell (j := q * 6 + 2) (by omega)
      obtain ⟨⟨x3, c3⟩, f3⟩ := HA.out.1.cell (j := q * 6 + 3) (by omega)
      obtain ⟨⟨x4, c4⟩, f4⟩ := HA.out.1.cell (j := q * 6 + 4) (by omega)
      obtain ⟨⟨x5, c5⟩, f5⟩ := HA.out.1.cell (j := q * 6 + 5) (by omega)
      go_wp2_with fail
      refine ⟨⟨q + 1, by omega, by go_num, by go_num, (((((HA.out.1.set _ _ _).set _ _ _).set _ _ _).set _ _ _).set _ _ _).set _ _ _, ?_⟩, by simp [intOf]; omega⟩
      exact HA.out.2.trans ((Mid.set hB hC _ _).trans ((Mid.set hB hC _ _).trans ((Mid.set hB hC _ _).trans ((Mid.set hB hC _ _).trans ((Mid.set hB hC _ _).trans (Mid.set hB hC _ _))))))
    · obtain rfl : q = n := by omega
      go_wp2_with fail
      go_ret
      exact ⟨rfl, HA.out.2⟩
/-- Locks that may be marked: each with those that wait in a block of their own. -/
def WrL (B C : Nat) (w : World) (g : Nat) (ns : List Nat) : Prop := Wr w g (ns.length * 5) ∧ ∀ (j m : Nat), ns[j]? = some m → ∃ h, w.cell? ⟨g, j * 5 + 4, none⟩ = some (.slice (some ⟨h, 0, none⟩) m m) ∧ B ≤ h ∧ h < C ∧ h ≠ g ∧ Wr w h (m * 2)
theorem WrL.below {B C : Nat} {w w' : World} {g : Nat} {ns : List Nat} (h : WrL B C w g ns) (hb : Below w.heap.size w w') : WrL B C w' g ns :=
  ⟨h.1.below hb, fun j m hj => by
    obtain ⟨q, h1, h2, h3, h4, h5⟩ := h.2 j m hj
    exact ⟨q, (hb.cell (p := ⟨g, _, none⟩) h.1.lt).trans h1, h2, h3, h4, h5.below hb⟩⟩
theorem WrL.set {B C : Nat} {w : World} {g : Nat} {ns : List Nat} (h : WrL B C w g ns) (i : Nat) (x : Value) (hi : ∀ j, i ≠ j * 5 + 4) : WrL B C (w.setCell ⟨g, i, none⟩ x) g ns :=
  ⟨h.1.set _ _ _, fun j m hj => by
    obtain ⟨q, h1, h2, h3, h4, h5⟩ := h.2 j m hj
    exact ⟨q, (World.cell?_setCell_other _ _ _ _ (fun e => hi j (by have := congrArg Addr.off e; exact this))).trans h1, h2, h3, h4, h5.set _ _ _⟩⟩
theorem WrL.kept {B C : Nat} {w w' : World} {g p : Nat} {ns : List Nat} (h : WrL B C w g ns) (hp : p ≠ g) (hk : Kw w w') (ho : ∀ k, k < w.heap.size → k ≠ p → w'.heap[k]? = w.heap[k]?) : WrL B C w' g ns :=
  ⟨hk _ _ h.1, fun j m hj => by
    obtain ⟨q, h1, h2, h3, h4, h5⟩ := h.2 j m hj
    exact ⟨q, (World.cell?_of_block (w := w) (ho g h.1.lt (Ne.symm hp))).trans h1, h2, h3, h4, hk _ _ h5⟩⟩
set_option maxRecDepth 100000 in
set_option maxHeartbeats 1600000 in
theorem markLockS_any (g : Nat) (ns : List Nat) (B C : Nat) (w : World) (h : WrL B C w g ns) (hB : B ≤ g) (hC : g < C) (hn : ns.length ≤ 1048576) (hm : ∀ m ∈ ns, m ≤ 1048576) :
    Calls Tryz.prog 50 #[.slice (some ⟨g, 0, none⟩) ns.length ns.length, .int .i64 1] w fun e w' => ∃ r : Nat, e = .returned (.int .i64 (r : Int)) ∧ r ≤ 3000000000000 ∧ Mid B C w w' ∧ Kw w w' := by
  have H : Hid (WrL B C w g ns) := h
  have HM : Hid (∀ m ∈ ns, m ≤ 1048576) := hm
  clear h hm
  go_enter Tryz.func50, Tryz.ntmps50
  go_wp2_with fail
  go_loopw [1, 5] (fun k i wr => ∃ q r : Nat, q ≤ ns.length ∧ k = .int .i64 (r : Int) ∧ 0 < r ∧ r ≤ 1 + q * 2097156 ∧ i = .int .i64 q ∧ Hid (WrL B C wr g ns ∧ Mid B C w wr ∧ Kw w wr)) (fun _ i _ => ns.length - (intOf i).toNat)
  case atStart => exact ⟨0, 1, by omega, rfl, by omega, by omega, rfl, H.out, Mid.refl _ _ _, fun _ _ h => h⟩
  case round =>
    obtain ⟨q, r, hq, rfl, hr0, hr, rfl, HA⟩ := hrel
    by_cases hlt : q < ns.length
    · go_wp2_with fail
      refine (markText_any r _ hr0 (by omega)).mono ?_
      rintro e w2 ⟨rfl, b2⟩
      have HB : Hid (WrL B C w2 g ns ∧ Mid B C w w2 ∧ Kw w w2) := ⟨HA.out.1.below b2, HA.out.2.1.trans (Mid.of_below b2), HA.out.2.2.trans fun _ _ h => h.below b2⟩
      clear b2 HA
      generalize mtext r = mt
      obtain ⟨⟨x0, c0⟩, f0⟩ := HB.out.1.1.cell (j := q * 5) (by omega)
      obtain ⟨⟨x1, c1⟩, f1⟩ := HB.out.1.1.cell (j := q * 5 + 1) (by omega)
      obtain ⟨⟨x2, c2⟩, f2⟩ := HB.out.1.1.cell (j := q * 5 + 2) (by omega)
      obtain ⟨⟨x3, c3⟩, f3⟩ := HB.out.1.1.cell (j := q * 5 + 3) (by omega)
      obtain ⟨m, hm⟩ := Tw.get_at hlt
      obtain ⟨p, c4, p1, p2, p3, p4⟩ := HB.out.1.2 q m hm
      have HP : Hid (ns[q]? = some m) := hm
      clear hm
      have HC : Hid (WrL B C ((((w2.setCell ⟨g, q * 5, none⟩ (.string mt)).setCell ⟨g, q * 5 + 1, none⟩ (.int .i64 ((r : Int) + 1))).setCell ⟨g, q * 5 + 2, none⟩ (.int .i64 ((r : Int) + 1 + 1))).setCell ⟨g, q * 5 + 3, none⟩ (.int .i64 ((r : Int) + 1 + 1 + 1))) g ns ∧ Mid B C w ((((w2.setCell ⟨g, q * 5, none⟩ (.string mt)).setCell ⟨g, q * 5 + 1, none⟩ (.int .i64 ((r : Int) + 1))).setCell ⟨g, q * 5 + 2, none⟩ (.int .i64 ((r : Int) + 1 + 1))).setCell ⟨g, q * 5 + 3, none⟩ (.int .i64 ((r : Int) + 1 + 1 + 1))) ∧ Wr ((((w2.setCell ⟨g, q * 5, none⟩ (.string mt)).setCell ⟨g, q * 5 + 1, none⟩ (.int .i64 ((r : Int) + 1))).setCell ⟨g, q * 5 + 2, none⟩ (.int .i64 ((r : Int) + 1 + 1))).setCell ⟨g, q * 5 + 3, none⟩ (.int .i64 ((r : Int) + 1 + 1 + 1))) p (m * 2) ∧ Kw w ((((w2.setCell ⟨g, q * 5, none⟩ (.string mt)).setCell ⟨g, q * 5 + 1, none⟩ (.int .i64 ((r : Int) + 1))).setCell ⟨g, q * 5 + 2, none⟩ (.int .i64 ((r : Int) + 1 + 1))).setCell ⟨g, q * 5 + 3, none⟩ (.int .i64 ((r : Int) + 1 + 1 + 1)))) :=
        ⟨(((HB.out.1.set _ _ (fun j => by omega)).set _ _ (fun j => by omega)).set _ _ (fun j => by omega)).set _ _ (fun j => by omega), HB.out.2.1.trans ((Mid.set hB hC _ _).trans ((Mid.set hB hC _ _).trans ((Mid.set hB hC _ _).trans (Mid.set hB hC _ _)))), (((p4.set _ _ _).set _ _ _).set _ _ _).set _ _ _, HB.out.2.2.trans fun _ _ h => (((h.set _ _ _).set _ _ _).set _ _ _).set _ _ _⟩
      have HMM : Hid (m ≤ 1048576) := HM.out m (Tw.mem_at HP.out)
      clear p4
      go_wp2_with fail
      generalize ((((w2.setCell ⟨g, q * 5, none⟩ (.string mt)).setCell ⟨g, q * 5 + 1, none⟩ (.int .i64 ((r : Int) + 1))).setCell ⟨g, q * 5 + 2, none⟩ (.int .i64 ((r : Int) + 1 + 1))).setCell ⟨g, q * 5 + 3, none⟩ (.int .i64 ((r : Int) + 1 + 1 + 1))) = w3 at HC ⊢
      have ER : Hid ((r : Int) + 1 + 1 + 1 + 1 = ((r + 4 : Nat) : Int)) := by show _ = _; omega
      rw [ER.out]
      refine (markWaiterS_any p m (r + 4) B C w3 HC.out.2.2.1 p1 p2 HMM.out (by omega)).mono ?_
      rintro e w4 ⟨rfl, m4, k4, o4⟩
      have HD : Hid (WrL B C w4 g ns ∧ Mid B C w w4 ∧ Kw w w4) := ⟨HC.out.1.kept p3 k4 o4, HC.out.2.1.trans m4, HC.out.2.2.2.trans k4⟩
      have hmm : m ≤ 1048576 := HMM.out
      clear m4 k4 o4 c0 c1 c2 c3 c4 f0 f1 f2 f3 HB HC
      go_wp2_with fail
      exact ⟨⟨q + 1, r + 4 + m * 2, by omega, rfl, by omega, by omega, by go_num, HD.out⟩, by simp [intOf]; omega⟩
    · obtain rfl : q = ns.length := by omega
      go_wp2_with fail
      go_ret
      exact ⟨r, rfl, by omega, HA.out.2⟩
/-- A table in new memory that may be written. -/
def TabW (B C : Nat) (w : World) (gl gs : Nat) (ls : List Lk) (ss : List Sn) : Prop := (B ≤ gl ∧ gl < C ∧ B ≤ gs ∧ gs < C) ∧ WrL B C w gl (ls.map fun x => x.ws.length) ∧ Wr w gs (ss.length * 6)
theorem TabW.below {B C : Nat} {w w' : World} {gl gs : Nat} {ls : List Lk} {ss : List Sn} (h : TabW B C w gl gs ls ss) (hb : Below w.heap.size w w') : TabW B C w' gl gs ls ss := ⟨h.1, h.2.1.below hb, h.2.2.below hb⟩
set_option maxRecDepth 100000 in
set_option maxHeartbeats 800000 in
theorem markTable_any (tm nx : Int) (gl gs : Nat) (ls : List Lk) (ss : List Sn) (B C : Nat) (w : World) (h : TabW B C w gl gs ls ss) (h1 : ls.length ≤ 1048576) (h2 : ss.length ≤ 1048576) (h3 : ∀ x ∈ ls, x.ws.length ≤ 1048576) (hCw : C ≤ w.heap.size) :
    Calls Tryz.prog 12 #[tabV tm nx (.slice (some ⟨gl, 0, none⟩) ls.length ls.length) (.slice (some ⟨gs, 0, none⟩) ss.length ss.length), .int .i64 1] w fun e w' => ∃ r : Nat, e = .returned (.int .i64 (r : Int)) ∧ Mid B C w w' := by
  obtain ⟨⟨b1, b2, b3, b4⟩, hl, hs⟩ := h
  have HN : Hid ((ls.map fun x => x.ws.length).length = ls.length ∧ ∀ m ∈ ls.map (fun x => x.ws.length), m ≤ 1048576) := ⟨by simp, fun m hm => by obtain ⟨x, hx, rfl⟩ := List.mem_map.1 hm; exact h3 x hx⟩
  have HL : Hid (∀ W, Below w.heap.size w W → Calls Tryz.prog 50 #[.slice (some ⟨gl, 0, none⟩) ls.length ls.length, .int .i64 1] W fun e w' => ∃ r : Nat, e = .returned (.int .i64 (r : Int)) ∧ r ≤ 3000000000000 ∧ Mid B C W w' ∧ Kw W w') := fun W hW => by
    have h := markLockS_any gl (ls.map fun x => x.ws.length) B C W (hl.below hW) b1 b2 (by rw [HN.out.1]; exact h1) HN.out.2
    rw [HN.out.1] at h
    exact h
  have HS : Hid (Wr w gs (ss.length * 6)) := hs
  clear hl hs h3
  unfold tabV
  have HBN : Hid (Below w.heap.size w (w.alloc (.cells #[.int .i64 tm, .int .i64 nx, .slice (some ⟨gl, 0, none⟩) ls.length ls.length, .slice (some ⟨gs, 0, none⟩) ss.length ss.length] 30)) ∧ (w.alloc (.cells #[.int .i64 tm, .int .i64 nx, .slice (some ⟨gl, 0, none⟩) ls.length ls.length, .slice (some ⟨gs, 0, none⟩) ss.length ss.length] 30)).heap[w.heap.size]? = some (.cells #[.int .i64 tm, .int .i64 nx, .slice (some ⟨gl, 0, none⟩) ls.length ls.length, .slice (some ⟨gs, 0, none⟩) ss.length ss.length] 30) ∧ w.heap.size < (w.alloc (.cells #[.int .i64 tm, .int .i64 nx, .slice (some ⟨gl, 0, none⟩) ls.length ls.length, .slice (some ⟨gs, 0, none⟩) ss.length ss.length] 30)).heap.size) := ⟨bel_new _ _, heap_alloc_new w _, by simp⟩
  go_enter Tryz.func12, Tryz.ntmps12
  go_wp2_with fail
  generalize w.alloc (.cells #[.int .i64 tm, .int .i64 nx, .slice (some ⟨gl, 0, none⟩) ls.length ls.length, .slice (some ⟨gs, 0, none⟩) ss.length ss.length] 30) = wb at HBN ⊢
  refine (HL.out _ HBN.out.1).mono ?_
  rintro e w1 ⟨r, rfl, hr, m1, k1⟩
  have x3 := (blk_cell ((m1.block _ HBN.out.2.2 (.inr hCw)).trans HBN.out.2.1) 3 (x := .slice (some ⟨gs, 0, none⟩) ss.length ss.length) rfl).1
  have HM : Hid (Mid B C w w1 ∧ Wr w1 gs (ss.length * 6)) := ⟨(Mid.of_below HBN.out.1).trans m1, k1 _ _ (HS.out.below HBN.out.1)⟩
  clear m1 k1
  go_wp2_with fail
  refine (markSeenS_any gs ss.length r B C w1 HM.out.2 b3 b4 h2 (by omega)).mono ?_
  rintro e w2 ⟨rfl, m2⟩
  have HM2 : Hid (Mid B C w w2) := HM.out.1.trans m2
  clear m2 x3
  go_wp2_with fail
  go_ret
  exact ⟨_, rfl, HM2.out⟩
end Go.Proofs.YtlgfeohoebmbcaaGreat.Mw
