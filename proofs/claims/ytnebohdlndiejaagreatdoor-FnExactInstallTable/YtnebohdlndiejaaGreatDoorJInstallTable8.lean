/- Texts put together: Mw, Ml, Wa, Ol. -/
import Derived.Test.YtnebohdlndiejaaGreatDoorJInstallTable7
import Derived.Deep.RegionWith
import Derived.Deep.Upon
import Derived.Maps.AppendAt
/- The laws' marks on tables. -/
namespace Go.Proofs.YtnebohdlndiejaaGreatDoor.Mw
open Go.RowKit Go.Proofs.YtnebohdlndiejaaGreatDoor.Sl Go.Proofs.YtnebohdlndiejaaGreatDoor.By Go.Proofs.YtnebohdlndiejaaGreatDoor.Ap Go.Proofs.YtnebohdlndiejaaGreatDoor.Tx Go.Proofs.YtnebohdlndiejaaGreatDoor.Tb Go.Proofs.YtnebohdlndiejaaGreatDoor.Tw

theorem ret_str {a b : ByteArray} (h : a = b) : Ending.returned (.string a) = .returned (.string b) := by rw [h]
/-- The digits of a number, ahead of a text. -/
def mtGo : Nat → Nat → ByteArray → ByteArray
  | 0, _, s => s
  | f + 1, k, s => if k = 0 then s else mtGo f (k / 10) (strOfNums [48 + ((k % 10 : Nat) : Int)] ++ s)
def mtext (k : Nat) : ByteArray := (⟨#[109]⟩ : ByteArray) ++ mtGo (k + 1) k ⟨#[]⟩

set_option maxRecDepth 100000 in
set_option maxHeartbeats 400000 in
theorem markText_any (k : Nat) (w : World) (h0 : 0 < k) (h1 : k ≤ 1125899906842624) :
    Calls Tryz.prog 53 #[.int .i64 k] w fun e w' => e = .returned (.string (mtext k)) ∧ Below w.heap.size w w' := by
  have h0' : ¬ (k : Int) ≤ 0 := by omega
  have h1' : (k : Int) ≤ 1125899906842624 := by omega
  have HT : Hid (mtext k = (⟨#[109]⟩ : ByteArray) ++ mtGo (k + 1) k ⟨#[]⟩) := rfl
  go_enter Tryz.func53, Tryz.ntmps53
  go_wp2_with fail
  go_loopw [0, 3] (fun n s wr => ∃ (q f : Nat) (t : ByteArray), n = .int .i64 q ∧ s = .string t ∧ q ≤ 1125899906842624 ∧ t.size + q ≤ 1125899906842624 ∧ Hid (q < f ∧ mtGo f q t = mtGo (k + 1) k ⟨#[]⟩) ∧ Below w.heap.size w wr) (fun n _ _ => (intOf n).toNat)
  case atStart => exact ⟨k, k + 1, ⟨#[]⟩, rfl, rfl, by omega, by simp [ByteArray.size]; omega, ⟨by omega, rfl⟩, Below.refl _ _⟩
  case round =>
    obtain ⟨q, f, t, rfl, rfl, hq, hts, HF, hbel⟩ := hrel
    by_cases hz : 0 < q
    · have hz' : (0 : Int) < (q : Int) := by omega
      have hcv := By.run_convert_own (P := Tryz.prog) (wr.alloc (.cells #[.int .u8 (48 + (q : Int) % 10)] 5)) wr.heap.size 86 5 9 Tryz.underlying86 Tryz.underlying5 Tryz.underlying9 (.slice (some ⟨wr.heap.size, 0, none⟩) 1 1) [48 + (q : Int) % 10] (own_one 5 wr wr.heap.size (48 + (q : Int) % 10) (Nat.le_refl _))
      have hs1 : (strOfNums [48 + (q : Int) % 10]).size = 1 := by rw [strOfNums_size]; rfl
      have hsz : ¬ 9223372036854775807 < (strOfNums [48 + (q : Int) % 10]).size + t.size := by rw [hs1]; omega
      have HS1 : Hid ((strOfNums [48 + (q : Int) % 10]).size = 1) := hs1
      have HE : Hid (∃ f', q / 10 < f' ∧ mtGo f' (q / 10) (strOfNums [48 + (q : Int) % 10] ++ t) = mtGo (k + 1) k ⟨#[]⟩) := by
        obtain ⟨e1, e2⟩ := HF.out
        cases f with
        | zero => omega
        | succ f =>
          refine ⟨f, by omega, ?_⟩
          rw [← e2]
          show _ = if q = 0 then t else mtGo f (q / 10) (strOfNums [48 + ((q % 10 : Nat) : Int)] ++ t)
          rw [if_neg (by omega)]
          rfl
      clear hs1 HF
      go_wp2_with fail
      obtain ⟨f', e1, e2⟩ := HE.out
      exact ⟨⟨q / 10, f', strOfNums [48 + (q : Int) % 10] ++ t, by simp, rfl, by omega, by rw [ByteArray.size_append, HS1.out]; omega, ⟨e1, e2⟩, hbel.alloc hbel.size _⟩, by simp [intOf]; omega⟩
    · have hz0 : q = 0 := by omega
      have HE : Hid (mtGo (k + 1) k ⟨#[]⟩ = t) := by
        show _ = _
        obtain ⟨e1, e2⟩ := HF.out
        rw [← e2, hz0]
        cases f with
        | zero => rfl
        | succ f => rfl
      have hz' : ¬ (0 : Int) < (q : Int) := by omega
      have hz2 : ¬ 0 < q := hz
      have hsz2 : ¬ 9223372036854775807 < 1 + t.size := by omega
      have hsz3 : ¬ 9223372036854775807 < (⟨#[109]⟩ : ByteArray).size + t.size := hsz2
      clear hz0
      go_wp2
      go_ret
      exact ⟨ret_str (by rw [HT.out, HE.out]), hbel⟩

/-- From w to w' only blocks from B on and below C were written, and new ones. -/
structure Mid (B C : Nat) (w w' : World) : Prop where
  os : w'.os = w.os
  tape : w'.tape = w.tape
  output : w'.output = w.output
  size : w.heap.size ≤ w'.heap.size
  block : ∀ k, k < w.heap.size → (k < B ∨ C ≤ k) → w'.heap[k]? = w.heap[k]?
theorem Mid.refl (B C : Nat) (w : World) : Mid B C w w := ⟨rfl, rfl, rfl, Nat.le_refl _, fun _ _ _ => rfl⟩
theorem Mid.trans {B C : Nat} {w w1 w2 : World} (h : Mid B C w w1) (g : Mid B C w1 w2) : Mid B C w w2 :=
  ⟨g.os.trans h.os, g.tape.trans h.tape, g.output.trans h.output, Nat.le_trans h.size g.size, fun k hk hn => (g.block k (Nat.lt_of_lt_of_le hk h.size) hn).trans (h.block k hk hn)⟩
theorem Mid.of_below {B C : Nat} {w w1 : World} (h : Below w.heap.size w w1) : Mid B C w w1 := ⟨h.os, h.tape, h.output, h.size, fun k hk _ => h.block k hk⟩
theorem Mid.set {B C : Nat} {w : World} {g : Nat} (h1 : B ≤ g) (h2 : g < C) (j : Nat) (x : Value) : Mid B C w (w.setCell ⟨g, j, none⟩ x) :=
  ⟨rfl, rfl, rfl, by simp, fun k _ hk => Below.heap_setCell w ⟨g, j, none⟩ x k (fun e => by have e' : k = g := e; omega)⟩
theorem Mid.below {B C : Nat} {w w1 : World} (h : Mid B C w w1) (hB : B ≤ w.heap.size) : Below B w w1 := ⟨h.os, h.tape, h.output, h.size, fun k hk => h.block k (Nat.lt_of_lt_of_le hk hB) (.inl hk)⟩
theorem own_mid {e : TypeId} {B C : Nat} {w w' : World} {v : Value} {zs : List Int} (h : OwnB e w C v zs) (hm : Mid B C w w') : OwnB e w' C v zs := by
  obtain ⟨hl, h⟩ := h
  refine ⟨hl, ?_⟩
  rcases h with h | ⟨g, cap, cur, rfl, h1, hg, h2⟩
  · exact .inl h
  · exact .inr ⟨g, cap, cur, rfl, h1, (hm.block g (Array.getElem?_eq_some_iff.1 hg).1 (.inr h1)).trans hg, h2⟩
/-- A block of n cells that may be written. -/
def Wr (w : World) (g n : Nat) : Prop := ∃ A t, w.heap[g]? = some (.cells A t (0, 0)) ∧ n ≤ A.size
theorem Wr.lt {w : World} {g n : Nat} (h : Wr w g n) : g < w.heap.size := by obtain ⟨A, t, h, _⟩ := h; exact (Array.getElem?_eq_some_iff.1 h).1
theorem Wr.below {w w' : World} {g n : Nat} (h : Wr w g n) (hb : Below w.heap.size w w') : Wr w' g n := by
  obtain ⟨A, t, h, hn⟩ := h
  exact ⟨A, t, (hb.block g (Array.getElem?_eq_some_iff.1 h).1).trans h, hn⟩
theorem Wr.set {w : World} {g n : Nat} (h : Wr w g n) (p j : Nat) (x : Value) : Wr (w.setCell ⟨p, j, none⟩ x) g n := by
  obtain ⟨A, t, h, hn⟩ := h
  by_cases e : p = g
  · subst e
    exact ⟨_, t, blk_set h j x, by rw [Array.size_setIfInBounds]; exact hn⟩
  · exact ⟨A, t, (blk_far (fun h => e h.symm) j x).trans h, hn⟩
theorem Wr.cell {w : World} {g n : Nat} (h : Wr w g n) {j : Nat} (hj : j < n) : (∃ x, w.cell? ⟨g, j, none⟩ = some x) ∧ w.frozen? ⟨g, j, none⟩ = false := by
  obtain ⟨A, t, h, hn⟩ := h
  obtain ⟨c, f⟩ := blk_cell h j (x := A[j]'(by omega)) (Array.getElem?_eq_getElem (by omega))
  exact ⟨⟨_, c⟩, f⟩
/-- What a mark keeps of the blocks that may be written. -/
def Kw (w w' : World) : Prop := ∀ g n, Wr w g n → Wr w' g n
theorem Kw.trans {w w1 w2 : World} (h : Kw w w1) (g : Kw w1 w2) : Kw w w2 := fun a n x => g a n (h a n x)
set_option maxRecDepth 100000 in
set_option maxHeartbeats 800000 in
theorem markWaiterS_any (g n : Nat) (a : Nat) (B C : Nat) (w : World) (h : Wr w g (n * 2)) (hB : B ≤ g) (hC : g < C) (hn : n ≤ 1048576) (ha : a ≤ 1000000000000000) :
    Calls Tryz.prog 77 #[.slice (some ⟨g, 0, none⟩) n n, .int .i64 a] w fun e w' => e = .returned (.int .i64 ((a + n * 2 : Nat) : Int)) ∧ Mid B C w w' ∧ Kw w w' ∧ (∀ k, k < w.heap.size → k ≠ g → w'.heap[k]? = w.heap[k]?) := by
  have H : Hid (Wr w g (n * 2)) := h
  clear h
  go_enter Tryz.func77, Tryz.ntmps77
  go_wp2_with fail
  go_loopw [1, 5] (fun k i wr => ∃ q : Nat, q ≤ n ∧ k = .int .i64 ((a + q * 2 : Nat) : Int) ∧ i = .int .i64 q ∧ Hid (Wr wr g (n * 2) ∧ Mid B C w wr ∧ Kw w wr ∧ (∀ k, k < w.heap.size → k ≠ g → wr.heap[k]? = w.heap[k]?))) (fun _ i _ => n - (intOf i).toNat)
  case atStart => exact ⟨0, by omega, by simp, rfl, H.out, Mid.refl _ _ _, fun _ _ h => h, fun _ _ _ => rfl⟩
  case round =>
    obtain ⟨q, hq, rfl, rfl, HA⟩ := hrel
    by_cases hlt : q < n
    · obtain ⟨⟨x0, c0⟩, f0⟩ := HA.out.1.cell (j := q * 2) (by omega)
      obtain ⟨⟨x1, c1⟩, f1⟩ := HA.out.1.cell (j := q * 2 + 1) (by omega)
      have hne : (⟨g, q * 2 + 1, none⟩ : Addr) ≠ ⟨g, q * 2, none⟩ := fun e => by have e' : q * 2 + 1 = q * 2 := congrArg Addr.off e; omega
      go_wp2_with fail
      refine ⟨⟨q + 1, by omega, by go_num, by go_num, (HA.out.1.set _ _ _).set _ _ _, HA.out.2.1.trans ((Mid.set hB hC _ _).trans (Mid.set hB hC _ _)), HA.out.2.2.1.trans fun _ _ h => (h.set _ _ _).set _ _ _, fun k hk hk2 => ?_⟩, by simp [intOf]; omega⟩
      exact ((blk_far hk2 _ _).trans (blk_far hk2 _ _)).trans (HA.out.2.2.2 k hk hk2)
    · obtain rfl : q = n := by omega
      go_wp2_with fail
      go_ret
      exact ⟨rfl, HA.out.2.1, HA.out.2.2.1, HA.out.2.2.2⟩
set_option maxRecDepth 100000 in
set_option maxHeartbeats 1600000 in
theorem markSeenS_any (g n : Nat) (a : Nat) (B C : Nat) (w : World) (h : Wr w g (n * 6)) (hB : B ≤ g) (hC : g < C) (hn : n ≤ 1048576) (ha : a ≤ 1000000000000000) :
    Calls Tryz.prog 41 #[.slice (some ⟨g, 0, none⟩) n n, .int .i64 a] w fun e w' => e = .returned (.int .i64 ((a + n * 6 : Nat) : Int)) ∧ Mid B C w w' := by
  have H : Hid (Wr w g (n * 6)) := h
  clear h
  go_enter Tryz.func41, Tryz.ntmps41
  go_wp2_with fail
  go_loopw [1, 5] (fun k i wr => ∃ q : Nat, q ≤ n ∧ k = .int .i64 ((a + q * 6 : Nat) : Int) ∧ i = .int .i64 q ∧ Hid (Wr wr g (n * 6) ∧ Mid B C w wr)) (fun _ i _ => n - (intOf i).toNat)
  case atStart => exact ⟨0, by omega, by simp, rfl, H.out, Mid.refl _ _ _⟩
  case round =>
    obtain ⟨q, hq, rfl, rfl, HA⟩ := hrel
    by_cases hlt : q < n
    · obtain ⟨⟨x0, c0⟩, f0⟩ := HA.out.1.cell (j := q * 6) (by omega)
      obtain ⟨⟨x1, c1⟩, f1⟩ := HA.out.1.cell (j := q * 6 + 1) (by omega)
      obtain ⟨⟨x2, c2⟩, f2⟩ := HA.out.1.cell (j := q * 6 + 2) (by omega)
      obtain ⟨⟨x3, c3⟩, f3⟩ := HA.out.1.cell (j := q * 6 + 3) (by omega)
      obtain ⟨⟨x4, c4⟩, f4⟩ := HA.out.1.cell (j := q * 6 + 4) (by omega)
      obtain ⟨⟨x5, c5⟩, f5⟩ := HA.out.1.cell (j := q * 6 + 5) (by omega)
      go_wp2_with fail
      refine ⟨⟨q + 1, by omega, by go_num, by go_num, (((((HA.out.1.set _ _ _).set _ _ _).set _ _ _).set _ _ _).set _ _ _).set _ _ _, ?_⟩, by simp [intOf]; omega⟩
      exact HA.out.2.trans ((Mid.set hB hC _ _).trans ((Mid.set hB hC _ _).trans ((Mid.set hB hC _ _).trans ((Mid.set hB hC _ _).trans ((Mid.set hB hC _ _).trans (Mid.set hB hC _ _))))))
    · obtain rfl : q = n := by omega
      go_wp2_with fail
      go_ret
      exact ⟨rfl, HA.out.2⟩
/-- Locks that may be marked: each with those that wait in a block of their own. -/
def WrL (B C : Nat) (w : World) (g : Nat) (ns : List Nat) : Prop := Wr w g (ns.length * 5) ∧ ∀ (j m : Nat), ns[j]? = some m → ∃ h, w.cell? ⟨g, j * 5 + 4, none⟩ = some (.slice (some ⟨h, 0, none⟩) m m) ∧ B ≤ h ∧ h < C ∧ h ≠ g ∧ Wr w h (m * 2)
theorem WrL.below {B C : Nat} {w w' : World} {g : Nat} {ns : List Nat} (h : WrL B C w g ns) (hb : Below w.heap.size w w') : WrL B C w' g ns :=
  ⟨h.1.below hb, fun j m hj => by
    obtain ⟨q, h1, h2, h3, h4, h5⟩ := h.2 j m hj
    exact ⟨q, (hb.cell (p := ⟨g, _, none⟩) h.1.lt).trans h1, h2, h3, h4, h5.below hb⟩⟩
theorem WrL.set {B C : Nat} {w : World} {g : Nat} {ns : List Nat} (h : WrL B C w g ns) (i : Nat) (x : Value) (hi : ∀ j, i ≠ j * 5 + 4) : WrL B C (w.setCell ⟨g, i, none⟩ x) g ns :=
  ⟨h.1.set _ _ _, fun j m hj => by
    obtain ⟨q, h1, h2, h3, h4, h5⟩ := h.2 j m hj
    exact ⟨q, (World.cell?_setCell_other _ _ _ _ (fun e => hi j (by have := congrArg Addr.off e; exact this))).trans h1, h2, h3, h4, h5.set _ _ _⟩⟩
theorem WrL.kept {B C : Nat} {w w' : World} {g p : Nat} {ns : List Nat} (h : WrL B C w g ns) (hp : p ≠ g) (hk : Kw w w') (ho : ∀ k, k < w.heap.size → k ≠ p → w'.heap[k]? = w.heap[k]?) : WrL B C w' g ns :=
  ⟨hk _ _ h.1, fun j m hj => by
    obtain ⟨q, h1, h2, h3, h4, h5⟩ := h.2 j m hj
    exact ⟨q, (World.cell?_of_block (w := w) (ho g h.1.lt (Ne.symm hp))).trans h1, h2, h3, h4, hk _ _ h5⟩⟩
set_option maxRecDepth 100000 in
set_option maxHeartbeats 1600000 in
theorem markLockS_any (g : Nat) (ns : List Nat) (B C : Nat) (w : World) (h : WrL B C w g ns) (hB : B ≤ g) (hC : g < C) (hn : ns.length ≤ 1048576) (hm : ∀ m ∈ ns, m ≤ 1048576) :
    Calls Tryz.prog 40 #[.slice (some ⟨g, 0, none⟩) ns.length ns.length, .int .i64 1] w fun e w' => ∃ r : Nat, e = .returned (.int .i64 (r : Int)) ∧ r ≤ 3000000000000 ∧ Mid B C w w' ∧ Kw w w' := by
  have H : Hid (WrL B C w g ns) := h
  have HM : Hid (∀ m ∈ ns, m ≤ 1048576) := hm
  clear h hm
  go_enter Tryz.func40, Tryz.ntmps40
  go_wp2_with fail
  go_loopw [1, 5] (fun k i wr => ∃ q r : Nat, q ≤ ns.length ∧ k = .int .i64 (r : Int) ∧ 0 < r ∧ r ≤ 1 + q * 2097156 ∧ i = .int .i64 q ∧ Hid (WrL B C wr g ns ∧ Mid B C w wr ∧ Kw w wr)) (fun _ i _ => ns.length - (intOf i).toNat)
  case atStart => exact ⟨0, 1, by omega, rfl, by omega, by omega, rfl, H.out, Mid.refl _ _ _, fun _ _ h => h⟩
  case round =>
    obtain ⟨q, r, hq, rfl, hr0, hr, rfl, HA⟩ := hrel
    by_cases hlt : q < ns.length
    · go_wp2_with fail
      refine (markText_any r _ hr0 (by omega)).mono ?_
      rintro e w2 ⟨rfl, b2⟩
      have HB : Hid (WrL B C w2 g ns ∧ Mid B C w w2 ∧ Kw w w2) := ⟨HA.out.1.below b2, HA.out.2.1.trans (Mid.of_below b2), HA.out.2.2.trans fun _ _ h => h.below b2⟩
      clear b2 HA
      generalize mtext r = mt
      obtain ⟨⟨x0, c0⟩, f0⟩ := HB.out.1.1.cell (j := q * 5) (by omega)
      obtain ⟨⟨x1, c1⟩, f1⟩ := HB.out.1.1.cell (j := q * 5 + 1) (by omega)
      obtain ⟨⟨x2, c2⟩, f2⟩ := HB.out.1.1.cell (j := q * 5 + 2) (by omega)
      obtain ⟨⟨x3, c3⟩, f3⟩ := HB.out.1.1.cell (j := q * 5 + 3) (by omega)
      obtain ⟨m, hm⟩ := Tw.get_at hlt
      obtain ⟨p, c4, p1, p2, p3, p4⟩ := HB.out.1.2 q m hm
      have HP : Hid (ns[q]? = some m) := hm
      clear hm
      have HC : Hid (WrL B C ((((w2.setCell ⟨g, q * 5, none⟩ (.string mt)).setCell ⟨g, q * 5 + 1, none⟩ (.int .i64 ((r : Int) + 1))).setCell ⟨g, q * 5 + 2, none⟩ (.int .i64 ((r : Int) + 1 + 1))).setCell ⟨g, q * 5 + 3, none⟩ (.int .i64 ((r : Int) + 1 + 1 + 1))) g ns ∧ Mid B C w ((((w2.setCell ⟨g, q * 5, none⟩ (.string mt)).setCell ⟨g, q * 5 + 1, none⟩ (.int .i64 ((r : Int) + 1))).setCell ⟨g, q * 5 + 2, none⟩ (.int .i64 ((r : Int) + 1 + 1))).setCell ⟨g, q * 5 + 3, none⟩ (.int .i64 ((r : Int) + 1 + 1 + 1))) ∧ Wr ((((w2.setCell ⟨g, q * 5, none⟩ (.string mt)).setCell ⟨g, q * 5 + 1, none⟩ (.int .i64 ((r : Int) + 1))).setCell ⟨g, q * 5 + 2, none⟩ (.int .i64 ((r : Int) + 1 + 1))).setCell ⟨g, q * 5 + 3, none⟩ (.int .i64 ((r : Int) + 1 + 1 + 1))) p (m * 2) ∧ Kw w ((((w2.setCell ⟨g, q * 5, none⟩ (.string mt)).setCell ⟨g, q * 5 + 1, none⟩ (.int .i64 ((r : Int) + 1))).setCell ⟨g, q * 5 + 2, none⟩ (.int .i64 ((r : Int) + 1 + 1))).setCell ⟨g, q * 5 + 3, none⟩ (.int .i64 ((r : Int) + 1 + 1 + 1)))) :=
        ⟨(((HB.out.1.set _ _ (fun j => by omega)).set _ _ (fun j => by omega)).set _ _ (fun j => by omega)).set _ _ (fun j => by omega), HB.out.2.1.trans ((Mid.set hB hC _ _).trans ((Mid.set hB hC _ _).trans ((Mid.set hB hC _ _).trans (Mid.set hB hC _ _)))), (((p4.set _ _ _).set _ _ _).set _ _ _).set _ _ _, HB.out.2.2.trans fun _ _ h => (((h.set _ _ _).set _ _ _).set _ _ _).set _ _ _⟩
      have HMM : Hid (m ≤ 1048576) := HM.out m (Tw.mem_at HP.out)
      clear p4
      go_wp2_with fail
      generalize ((((w2.setCell ⟨g, q * 5, none⟩ (.string mt)).setCell ⟨g, q * 5 + 1, none⟩ (.int .i64 ((r : Int) + 1))).setCell ⟨g, q * 5 + 2, none⟩ (.int .i64 ((r : Int) + 1 + 1))).setCell ⟨g, q * 5 + 3, none⟩ (.int .i64 ((r : Int) + 1 + 1 + 1))) = w3 at HC ⊢
      have ER : Hid ((r : Int) + 1 + 1 + 1 + 1 = ((r + 4 : Nat) : Int)) := by show _ = _; omega
      rw [ER.out]
      refine (markWaiterS_any p m (r + 4) B C w3 HC.out.2.2.1 p1 p2 HMM.out (by omega)).mono ?_
      rintro e w4 ⟨rfl, m4, k4, o4⟩
      have HD : Hid (WrL B C w4 g ns ∧ Mid B C w w4 ∧ Kw w w4) := ⟨HC.out.1.kept p3 k4 o4, HC.out.2.1.trans m4, HC.out.2.2.2.trans k4⟩
      have hmm : m ≤ 1048576 := HMM.out
      clear m4 k4 o4 c0 c1 c2 c3 c4 f0 f1 f2 f3 HB HC
      go_wp2_with fail
      exact ⟨⟨q + 1, r + 4 + m * 2, by omega, rfl, by omega, by omega, by go_num, HD.out⟩, by simp [intOf]; omega⟩
    · obtain rfl : q = ns.length := by omega
      go_wp2_with fail
      go_ret
      exact ⟨r, rfl, by omega, HA.out.2⟩
/-- A table in new memory that may be written. -/
def TabW (B C : Nat) (w : World) (gl gs : Nat) (ls : List Lk) (ss : List Sn) : Prop := (B ≤ gl ∧ gl < C ∧ B ≤ gs ∧ gs < C) ∧ WrL B C w gl (ls.map fun x => x.ws.length) ∧ Wr w gs (ss.length * 6)
theorem TabW.below {B C : Nat} {w w' : World} {gl gs : Nat} {ls : List Lk} {ss : List Sn} (h : TabW B C w gl gs ls ss) (hb : Below w.heap.size w w') : TabW B C w' gl gs ls ss := ⟨h.1, h.2.1.below hb, h.2.2.below hb⟩
set_option maxRecDepth 100000 in
set_option maxHeartbeats 800000 in
theorem markTable_any (tm nx : Int) (gl gs : Nat) (ls : List Lk) (ss : List Sn) (B C : Nat) (w : World) (h : TabW B C w gl gs ls ss) (h1 : ls.length ≤ 1048576) (h2 : ss.length ≤ 1048576) (h3 : ∀ x ∈ ls, x.ws.length ≤ 1048576) (hCw : C ≤ w.heap.size) :
    Calls Tryz.prog 13 #[tabV tm nx (.slice (some ⟨gl, 0, none⟩) ls.length ls.length) (.slice (some ⟨gs, 0, none⟩) ss.length ss.length), .int .i64 1] w fun e w' => ∃ r : Nat, e = .returned (.int .i64 (r : Int)) ∧ Mid B C w w' := by
  obtain ⟨⟨b1, b2, b3, b4⟩, hl, hs⟩ := h
  have HN : Hid ((ls.map fun x => x.ws.length).length = ls.length ∧ ∀ m ∈ ls.map (fun x => x.ws.length), m ≤ 1048576) := ⟨by simp, fun m hm => by obtain ⟨x, hx, rfl⟩ := List.mem_map.1 hm; exact h3 x hx⟩
  have HL : Hid (∀ W, Below w.heap.size w W → Calls Tryz.prog 40 #[.slice (some ⟨gl, 0, none⟩) ls.length ls.length, .int .i64 1] W fun e w' => ∃ r : Nat, e = .returned (.int .i64 (r : Int)) ∧ r ≤ 3000000000000 ∧ Mid B C W w' ∧ Kw W w') := fun W hW => by
    have h := markLockS_any gl (ls.map fun x => x.ws.length) B C W (hl.below hW) b1 b2 (by rw [HN.out.1]; exact h1) HN.out.2
    rw [HN.out.1] at h
    exact h
  have HS : Hid (Wr w gs (ss.length * 6)) := hs
  clear hl hs h3
  unfold tabV
  have HBN : Hid (Below w.heap.size w (w.alloc (.cells #[.int .i64 tm, .int .i64 nx, .slice (some ⟨gl, 0, none⟩) ls.length ls.length, .slice (some ⟨gs, 0, none⟩) ss.length ss.length] 36)) ∧ (w.alloc (.cells #[.int .i64 tm, .int .i64 nx, .slice (some ⟨gl, 0, none⟩) ls.length ls.length, .slice (some ⟨gs, 0, none⟩) ss.length ss.length] 36)).heap[w.heap.size]? = some (.cells #[.int .i64 tm, .int .i64 nx, .slice (some ⟨gl, 0, none⟩) ls.length ls.length, .slice (some ⟨gs, 0, none⟩) ss.length ss.length] 36) ∧ w.heap.size < (w.alloc (.cells #[.int .i64 tm, .int .i64 nx, .slice (some ⟨gl, 0, none⟩) ls.length ls.length, .slice (some ⟨gs, 0, none⟩) ss.length ss.length] 36)).heap.size) := ⟨bel_new _ _, heap_alloc_new w _, by simp⟩
  go_enter Tryz.func13, Tryz.ntmps13
  go_wp2_with fail
  generalize w.alloc (.cells #[.int .i64 tm, .int .i64 nx, .slice (some ⟨gl, 0, none⟩) ls.length ls.length, .slice (some ⟨gs, 0, none⟩) ss.length ss.length] 36) = wb at HBN ⊢
  refine (HL.out _ HBN.out.1).mono ?_
  rintro e w1 ⟨r, rfl, hr, m1, k1⟩
  have x3 := (blk_cell ((m1.block _ HBN.out.2.2 (.inr hCw)).trans HBN.out.2.1) 3 (x := .slice (some ⟨gs, 0, none⟩) ss.length ss.length) rfl).1
  have HM : Hid (Mid B C w w1 ∧ Wr w1 gs (ss.length * 6)) := ⟨(Mid.of_below HBN.out.1).trans m1, k1 _ _ (HS.out.below HBN.out.1)⟩
  clear m1 k1
  go_wp2_with fail
  refine (markSeenS_any gs ss.length r B C w1 HM.out.2 b3 b4 h2 (by omega)).mono ?_
  rintro e w2 ⟨rfl, m2⟩
  have HM2 : Hid (Mid B C w w2) := HM.out.1.trans m2
  clear m2 x3
  go_wp2_with fail
  go_ret
  exact ⟨_, rfl, HM2.out⟩
end Go.Proofs.YtnebohdlndiejaaGreatDoor.Mw

/- The laws' marks on a lock of one's own: those that wait, marked and held. -/
namespace Go.Proofs.YtnebohdlndiejaaGreatDoor.Mw
open Go.RowKit Go.Proofs.YtnebohdlndiejaaGreatDoor.Sl Go.Proofs.YtnebohdlndiejaaGreatDoor.By Go.Proofs.YtnebohdlndiejaaGreatDoor.Ap Go.Proofs.YtnebohdlndiejaaGreatDoor.Tx Go.Proofs.YtnebohdlndiejaaGreatDoor.Tb Go.Proofs.YtnebohdlndiejaaGreatDoor.Tw

/-- Those that wait, marked from a on: the first q. -/
def MkW (w : World) (g : Nat) (a q : Nat) : Prop := ∀ j, j < q → w.cell? ⟨g, j * 2, none⟩ = some (.int .i64 ((a + j * 2 : Nat) : Int)) ∧ w.cell? ⟨g, j * 2 + 1, none⟩ = some (.int .i64 ((a + j * 2 + 1 : Nat) : Int))
theorem MkW.below {w w' : World} {g a q : Nat} (h : MkW w g a q) (hg : g < w.heap.size) (hb : Below w.heap.size w w') : MkW w' g a q := fun j hj => ⟨(hb.cell (p := ⟨g, _, none⟩) hg).trans (h j hj).1, (hb.cell (p := ⟨g, _, none⟩) hg).trans (h j hj).2⟩
theorem set_same {w : World} {g n j : Nat} (h : Wr w g n) (hj : j < n) (x : Value) : (w.setCell ⟨g, j, none⟩ x).cell? ⟨g, j, none⟩ = some x := by
  obtain ⟨A, t, h, hn⟩ := h
  have h1 := blk_set h j x
  exact (blk_cell h1 j (x := x) (by rw [Array.getElem?_setIfInBounds, if_pos rfl, if_pos (by omega)])).1
theorem set_off {w : World} {g i j : Nat} (hne : i ≠ j) (x : Value) : (w.setCell ⟨g, i, none⟩ x).cell? ⟨g, j, none⟩ = w.cell? ⟨g, j, none⟩ :=
  World.cell?_setCell_other _ _ _ _ (fun e => hne (by have := congrArg Addr.off e; exact this))
theorem MkW.next {w : World} {g a q n : Nat} (h : MkW w g a q) (hw : Wr w g (n * 2)) (hq : q < n) : MkW ((w.setCell ⟨g, q * 2, none⟩ (.int .i64 ((a + q * 2 : Nat) : Int))).setCell ⟨g, q * 2 + 1, none⟩ (.int .i64 ((a + q * 2 + 1 : Nat) : Int))) g a (q + 1) := fun j hj => by
  by_cases e : j = q
  · subst e
    exact ⟨(set_off (by omega) _).trans (set_same hw (by omega) _), set_same (hw.set _ _ _) (by omega) _⟩
  · exact ⟨((set_off (by omega) _).trans (set_off (by omega) _)).trans (h j (by omega)).1, ((set_off (by omega) _).trans (set_off (by omega) _)).trans (h j (by omega)).2⟩
set_option maxRecDepth 100000 in
set_option maxHeartbeats 800000 in
theorem markOwnW_any (g n cap : Nat) (a : Nat) (w : World) (h : Wr w g (n * 2)) (hcap : n ≤ cap) (hn : n ≤ 1048576) (ha : a ≤ 1000000000000000) :
    Calls Tryz.prog 77 #[.slice (some ⟨g, 0, none⟩) n cap, .int .i64 a] w fun e w' => e = .returned (.int .i64 ((a + n * 2 : Nat) : Int)) ∧ MkW w' g a n ∧ Mid g (g + 1) w w' := by
  have H : Hid (Wr w g (n * 2)) := h
  clear h
  go_enter Tryz.func77, Tryz.ntmps77
  go_wp2_with fail
  go_loopw [1, 5] (fun k i wr => ∃ q : Nat, q ≤ n ∧ k = .int .i64 ((a + q * 2 : Nat) : Int) ∧ i = .int .i64 q ∧ Hid (Wr wr g (n * 2) ∧ Mid g (g + 1) w wr ∧ MkW wr g a q)) (fun _ i _ => n - (intOf i).toNat)
  case atStart => exact ⟨0, by omega, by simp, rfl, H.out, Mid.refl _ _ _, fun j hj => absurd hj (by omega)⟩
  case round =>
    obtain ⟨q, hq, rfl, rfl, HA⟩ := hrel
    by_cases hlt : q < n
    · obtain ⟨⟨x0, c0⟩, f0⟩ := HA.out.1.cell (j := q * 2) (by omega)
      obtain ⟨⟨x1, c1⟩, f1⟩ := HA.out.1.cell (j := q * 2 + 1) (by omega)
      have HK : Hid (MkW ((wr.setCell ⟨g, q * 2, none⟩ (.int .i64 ((a + q * 2 : Nat) : Int))).setCell ⟨g, q * 2 + 1, none⟩ (.int .i64 (((a + q * 2 : Nat) : Int) + 1))) g a (q + 1)) := by
        have h := HA.out.2.2.next HA.out.1 hlt
        rw [show ((a + q * 2 + 1 : Nat) : Int) = ((a + q * 2 : Nat) : Int) + 1 by omega] at h
        exact h
      go_wp2_with fail
      exact ⟨⟨q + 1, by omega, by go_num, by go_num, (HA.out.1.set _ _ _).set _ _ _, HA.out.2.1.trans ((Mid.set (Nat.le_refl _) (Nat.lt_succ_self _) _ _).trans (Mid.set (Nat.le_refl _) (Nat.lt_succ_self _) _ _)), HK.out⟩, by simp [intOf]; omega⟩
    · obtain rfl : q = n := by omega
      go_wp2_with fail
      go_ret
      exact ⟨rfl, HA.out.2.2, HA.out.2.1⟩
set_option maxRecDepth 100000 in
set_option maxHeartbeats 800000 in
theorem heldOwnW_any (g n cap : Nat) (a : Nat) (w : World) (h : MkW w g a n) (hcap : n ≤ cap) (hn : n ≤ 1048576) (ha : a ≤ 1000000000000000) :
    Calls Tryz.prog 91 #[.slice (some ⟨g, 0, none⟩) n cap, .int .i64 a] w fun e w' => e = .returned (.int .i64 ((a + n * 2 : Nat) : Int)) ∧ w' = w := by
  have H : Hid (MkW w g a n) := h
  clear h
  go_enter Tryz.func91, Tryz.ntmps91
  go_wp2_with fail
  go_loop [1, 5] (fun k i => ∃ q : Nat, q ≤ n ∧ k = .int .i64 ((a + q * 2 : Nat) : Int) ∧ i = .int .i64 q) (fun _ i => n - (intOf i).toNat)
  case atStart => exact ⟨0, by omega, by simp, rfl⟩
  case round =>
    obtain ⟨q, hq, rfl, rfl⟩ := hrel
    by_cases hlt : q < n
    · obtain ⟨c0, c1⟩ := H.out q hlt
      have e0 : (((a + q * 2 : Nat) : Int) != ((a + q * 2 : Nat) : Int)) = false := by simp
      have e1 : (((a + q * 2 + 1 : Nat) : Int) != ((a + q * 2 : Nat) : Int) + 1) = false := by simp
      go_wp2
      go_round
      case rel => exact ⟨q + 1, by omega, by go_num, by go_num⟩
      case measure => simp [intOf]; omega
    · obtain rfl : q = n := by omega
      go_wp2
      go_ret
      exact ⟨rfl, rfl⟩
set_option maxHeartbeats 400000 in
theorem markNilW_any (a : Nat) (ad : Option Addr) (cap : Nat) (w : World) : Calls Tryz.prog 77 #[.slice ad 0 cap, .int .i64 a] w fun e w' => e = .returned (.int .i64 (a : Int)) ∧ w' = w := by
  go_enter Tryz.func77, Tryz.ntmps77
  go_wp2_with fail
  go_loopw [1, 5] (fun k i wr => k = .int .i64 (a : Int) ∧ i = .int .i64 0 ∧ wr = w) (fun _ _ _ => 0)
  case atStart => exact ⟨rfl, rfl, rfl⟩
  case round =>
    obtain ⟨rfl, rfl, rfl⟩ := hrel
    go_wp2
    go_ret
    exact ⟨rfl, rfl⟩
set_option maxHeartbeats 400000 in
theorem heldNilW_any (a : Nat) (ad : Option Addr) (cap : Nat) (w : World) : Calls Tryz.prog 91 #[.slice ad 0 cap, .int .i64 a] w fun e w' => e = .returned (.int .i64 (a : Int)) ∧ w' = w := by
  go_enter Tryz.func91, Tryz.ntmps91
  go_wp2_with fail
  go_loopw [1, 5] (fun k i wr => k = .int .i64 (a : Int) ∧ i = .int .i64 0 ∧ wr = w) (fun _ _ _ => 0)
  case atStart => exact ⟨rfl, rfl, rfl⟩
  case round =>
    obtain ⟨rfl, rfl, rfl⟩ := hrel
    go_wp2
    go_ret
    exact ⟨rfl, rfl⟩
/-- Those that wait, in memory of one's own (or none). -/
def OwnW (w : World) (B : Nat) (v : Value) (n : Nat) : Prop := ∃ ad cap, v = .slice ad n cap ∧ (n = 0 ∨ ∃ g, ad = some ⟨g, 0, none⟩ ∧ B ≤ g ∧ n ≤ cap ∧ Wr w g (n * 2))
def HeldW (w : World) (B : Nat) (v : Value) (a n : Nat) : Prop := ∃ ad cap, v = .slice ad n cap ∧ (n = 0 ∨ ∃ g, ad = some ⟨g, 0, none⟩ ∧ B ≤ g ∧ g < w.heap.size ∧ n ≤ cap ∧ MkW w g a n)
theorem HeldW.below {w w' : World} {B : Nat} {v : Value} {a n : Nat} (h : HeldW w B v a n) (hb : Below w.heap.size w w') : HeldW w' B v a n := by
  obtain ⟨ad, cap, rfl, h⟩ := h
  refine ⟨ad, cap, rfl, ?_⟩
  rcases h with h | ⟨g, rfl, h1, h2, h3, h4⟩
  · exact .inl h
  · exact .inr ⟨g, rfl, h1, Nat.lt_of_lt_of_le h2 hb.size, h3, h4.below h2 hb⟩
end Go.Proofs.YtnebohdlndiejaaGreatDoor.Mw

/- Waiters and Seens in slices of the call's own; they are appended. -/
namespace Go.Proofs.YtnebohdlndiejaaGreatDoor.Wa
open Go.RowKit Go.Proofs.YtnebohdlndiejaaGreatDoor.Sl Go.Proofs.YtnebohdlndiejaaGreatDoor.By Go.Proofs.YtnebohdlndiejaaGreatDoor.Ap Go.Proofs.YtnebohdlndiejaaGreatDoor.Tb Go.Proofs.YtnebohdlndiejaaGreatDoor.Tw Go.Proofs.YtnebohdlndiejaaGreatDoor.Mw

def clW (p : Wt) : List Value := [.int .i64 p.c, .int .i64 p.l]
theorem oneW (p : Wt) : ∀ u ∈ clW p, u.oneCell' = true := by
  intro u hu
  simp [clW] at hu
  rcases hu with rfl | rfl
  all_goals rfl
theorem lenW : ∀ (ms : List Wt), (ms.flatMap clW).length = ms.length * 2
  | [] => rfl
  | x :: r => by rw [List.flatMap_cons, List.length_append, lenW r]; show 2 + _ = _; simp only [List.length_cons]; omega
theorem atW : ∀ (ms : List Wt) (i : Nat) (x : Wt) (j : Nat), ms[i]? = some x → j < 2 → (ms.flatMap clW)[i * 2 + j]? = (clW x)[j]?
  | [], i, x, j, h, _ => by simp at h
  | y :: r, 0, x, j, h, hj => by
    simp at h; subst h
    rw [List.flatMap_cons, List.getElem?_append_left (by show _ < 2; omega)]
    simp
  | y :: r, i + 1, x, j, h, hj => by
    have h' : r[i]? = some x := by simpa using h
    rw [List.flatMap_cons, List.getElem?_append_right (by show 2 ≤ _; omega)]
    rw [show (i + 1) * 2 + j - (clW y).length = i * 2 + j by show _ - 2 = _; omega]
    exact atW r i x j h' hj
theorem memW (ms : List Wt) : ∀ u ∈ ms.flatMap clW, u.oneCell' = true := by
  intro u hu
  obtain ⟨x, _, hx⟩ := List.mem_flatMap.1 hu
  exact oneW x u hx
def OwnW (w : World) (B : Nat) (v : Value) (ms : List Wt) : Prop := w.ownsRow B 101 2 v ms.length (ms.flatMap clW)
theorem OwnW.kept {w w' : World} {B : Nat} {v : Value} {ms : List Wt} (h : OwnW w B v ms) (hk : ∀ g, v.ownBlock = some g → w'.heap[g]? = w.heap[g]?) : OwnW w' B v ms := by
  obtain ⟨hl, h⟩ := h
  refine ⟨hl, ?_⟩
  rcases h with h | ⟨g, cap, cur, rfl, h1, hg, h2⟩
  · exact .inl h
  · exact .inr ⟨g, cap, cur, rfl, h1, (hk g rfl).trans hg, h2⟩
theorem OwnW.lt {w : World} {B : Nat} {v : Value} {ms : List Wt} (h : OwnW w B v ms) : ∀ g, v.ownBlock = some g → B ≤ g ∧ g < w.heap.size := World.ownsRow.lt h
theorem OwnW.below {w w' : World} {B : Nat} {v : Value} {ms : List Wt} (h : OwnW w B v ms) (hb : Below w.heap.size w w') : OwnW w' B v ms := h.kept fun g hg => hb.block g (h.lt g hg).2
theorem OwnW.alloc {w : World} {B : Nat} {v : Value} {ms : List Wt} (h : OwnW w B v ms) (o : Obj) : OwnW (w.alloc o) B v ms := h.below ((Below.refl _ _).alloc (Nat.le_refl _) _)
theorem OwnW.made (w : World) (B : Nat) (hB : B ≤ w.heap.size) : OwnW (w.alloc (.cells #[] 101)) B (.slice (some ⟨w.heap.size, 0, none⟩) 0 0) [] := World.ownsRow_made w #[] 0 hB (by decide) rfl
theorem OwnW.nil (w : World) (B : Nat) : OwnW w B (.slice none 0 0) [] := World.ownsRow_nil _ _ _ _
theorem OwnW.slice {w : World} {B : Nat} {v : Value} {ms : List Wt} (h : OwnW w B v ms) : ∃ a cap, v = .slice a ms.length cap := by
  obtain ⟨_, h | ⟨g, cap, cur, he, _⟩⟩ := h
  · exact ⟨none, 0, by rw [h.1, h.2]⟩
  · exact ⟨_, cap, he⟩
theorem OwnW.mono {w : World} {B B' : Nat} {v : Value} {ms : List Wt} (h : OwnW w B v ms) (hb : B' ≤ B) : OwnW w B' v ms := by
  obtain ⟨hl, h⟩ := h
  refine ⟨hl, ?_⟩
  rcases h with h | ⟨g, cap, cur, rfl, h1, hg, h2⟩
  · exact .inl h
  · exact .inr ⟨g, cap, cur, rfl, Nat.le_trans hb h1, hg, h2⟩
theorem OwnW.row {w : World} {B : Nat} {v : Value} {ms : List Wt} (h : OwnW w B v ms) : RowW w v ms := by
  obtain ⟨hl, h⟩ := h
  rcases h with ⟨rfl, h0⟩ | ⟨g, cap, cur, rfl, hB, hg, hc, _, hs, htk⟩
  · exact ⟨none, 0, by rw [h0], .inl (List.length_eq_zero_iff.1 h0)⟩
  · refine ⟨_, cap, rfl, .inr ⟨g, 0, rfl, hc, (Array.getElem?_eq_some_iff.1 hg).1, fun i x hi => ?_⟩⟩
    have hil := (List.getElem?_eq_some_iff.1 hi).1
    have key : ∀ j u, j < 2 → (clW x)[j]? = some u → w.cell? ⟨g, 0 + i * 2 + j, none⟩ = some u := fun j u hj hu => by
      rw [Nat.zero_add, Joins.cell_of_block hg, ← Array.getElem?_toList]
      have h1 := atW ms i x j hi hj
      rw [← htk, List.getElem?_take, if_pos (by omega)] at h1
      rw [h1, hu]
    exact ⟨key 0 _ (by decide) rfl, key 1 _ (by decide) rfl⟩
theorem infoW : (Tryz.prog.info? 101).map (fun i => (i.zero, i.size, i.bytes)) = some (some (.agg #[.int .i64 0, .int .i64 0]), 2, 16) := by kernel_rfl
theorem srcW {w : World} {a : Addr} {xs : List Wt} {cap : Nat} (h : RowW w (.slice (some a) xs.length cap) xs) : ∀ j u, (xs.flatMap clW)[j]? = some u → w.cell? (a.add j) = some u := by
  intro j u hj
  have hlt := (List.getElem?_eq_some_iff.1 hj).1
  rw [lenW] at hlt
  obtain ⟨x, hx⟩ : ∃ x, xs[j / 2]? = some x := ⟨_, List.getElem?_eq_getElem (by omega)⟩
  obtain ⟨b, off, hab, _, hE⟩ := RowG.at h rfl hx
  cases hab
  have h2 := atW xs (j / 2) x (j % 2) hx (Nat.mod_lt _ (by decide))
  rw [show j / 2 * 2 + j % 2 = j by omega, hj] at h2
  rw [addr_add, show off + j = off + j / 2 * 2 + j % 2 by omega]
  obtain ⟨e0, e1⟩ := hE
  rcases (by omega : j % 2 = 0 ∨ j % 2 = 1) with q | q
  · rw [q] at h2 ⊢; exact e0.trans h2.symm
  · rw [q] at h2 ⊢; exact e1.trans h2.symm
theorem appW {P : Program} {ops : Array Oper} {rest : List Oper} {o : Oper} {a : Act} {Q : Exit → Act → World → Prop} (hgd : o.guard = none) (s x : Operand) (t : TypeId)
    (ho : o.op = .call { callee := .builtin .append, args := #[s, x], argTypes := #[t, t] }) (i : TypeInfo) (ht : P.underlying t = some (.slice 101)) (hi : P.info? 101 = some i) (hz : i.zero = some (.agg #[.int .i64 0, .int .i64 0]))
    (hsize : i.size = 2) (hby : i.bytes = 16) (B : Nat) (w0 W : World) (v u : Value) (zs xs : List Wt) (hs : a.eval s = v) (hown : OwnW W B v zs) (hbel : Below B w0 W) (hB : B ≤ W.heap.size)
    (hx : a.eval x = u) (hu : RowW W u xs) (hlen : zs.length + xs.length ≤ 1000000)
    (h : ∀ v' w', OwnW w' B v' (zs ++ xs) → Below B w0 w' → (∀ k, k < W.heap.size → some k ≠ v.ownBlock → w'.heap[k]? = W.heap[k]?) → wpList P ops Q rest (a.put o.dst v') w') : wpList P ops Q (o :: rest) a W := by
  have hu' := hu
  obtain ⟨ad, cap, rfl, hc⟩ := hu
  have hown2 := hown
  unfold OwnW at hown2
  cases ad with
  | none =>
    obtain rfl : xs = [] := by
      rcases hc with h | ⟨_, _, h, _⟩
      · exact h
      · cases h
    have hr : (Builtin.append_ #[t, t] o.type #[v, .slice none 0 cap]).run P W = .ok v W := by
      rcases hown2.2 with ⟨rfl, _⟩ | ⟨g, c, cur, rfl, _, _, hn, _⟩
      · exact run_append_nothing W t t o.type _ i ht hi none 0 0 (Nat.le_refl _) _ (Src.ofNil W ht cap)
      · exact run_append_nothing W t t o.type _ i ht hi _ _ _ hn _ (Src.ofNil W ht cap)
    refine wpList_plain hgd fun K hK => ?_
    unfold Oper.wp execOp
    simp only [ho, resolve, invoke, builtin, Sem.run_bind, Sem.run_pure, Result.andThen_ok, List.map_toArray, List.map_cons, List.map_nil, hs, hx, List.length_nil, hr]
    exact hK _ _ (h v W (by simpa using hown) hbel (fun _ _ _ => rfl))
  | some ad =>
    refine wpList_append_own_at (P := P) _ hgd s x t ho B 101 i _ 2 16 ht hi hz hsize hby rfl (by decide) v zs.length _ hs hown2 ad xs.length cap (xs.flatMap clW) hx (lenW xs) (srcW hu') (memW xs) (by unfold maxLen; omega) (by omega) hB ?_
    intro v' w' h1 h2 h3 h4
    exact h v' w' (by unfold OwnW; rw [List.flatMap_append, List.length_append]; exact h1) (hbel.grown h2 hB (fun k hk => (hown2.lt k hk).1)) (fun k hk hn => h2.block k hk hn)

def clS (p : Sn) : List Value := [.int .i64 p.c, .int .i64 p.s, .int .i64 p.k, .int .i64 p.t, .int .i64 p.h, .int .i64 p.e]
theorem oneS (p : Sn) : ∀ u ∈ clS p, u.oneCell' = true := by
  intro u hu
  simp [clS] at hu
  rcases hu with rfl | rfl | rfl | rfl | rfl | rfl
  all_goals rfl
theorem lenS : ∀ (ms : List Sn), (ms.flatMap clS).length = ms.length * 6
  | [] => rfl
  | x :: r => by rw [List.flatMap_cons, List.length_append, lenS r]; show 6 + _ = _; simp only [List.length_cons]; omega
theorem atS : ∀ (ms : List Sn) (i : Nat) (x : Sn) (j : Nat), ms[i]? = some x → j < 6 → (ms.flatMap clS)[i * 6 + j]? = (clS x)[j]?
  | [], i, x, j, h, _ => by simp at h
  | y :: r, 0, x, j, h, hj => by
    simp at h; subst h
    rw [List.flatMap_cons, List.getElem?_append_left (by show _ < 6; omega)]
    simp
  | y :: r, i + 1, x, j, h, hj => by
    have h' : r[i]? = some x := by simpa using h
    rw [List.flatMap_cons, List.getElem?_append_right (by show 6 ≤ _; omega)]
    rw [show (i + 1) * 6 + j - (clS y).length = i * 6 + j by show _ - 6 = _; omega]
    exact atS r i x j h' hj
theorem memS (ms : List Sn) : ∀ u ∈ ms.flatMap clS, u.oneCell' = true := by
  intro u hu
  obtain ⟨x, _, hx⟩ := List.mem_flatMap.1 hu
  exact oneS x u hx
def OwnS (w : World) (B : Nat) (v : Value) (ms : List Sn) : Prop := w.ownsRow B 105 6 v ms.length (ms.flatMap clS)
theorem OwnS.kept {w w' : World} {B : Nat} {v : Value} {ms : List Sn} (h : OwnS w B v ms) (hk : ∀ g, v.ownBlock = some g → w'.heap[g]? = w.heap[g]?) : OwnS w' B v ms := by
  obtain ⟨hl, h⟩ := h
  refine ⟨hl, ?_⟩
  rcases h with h | ⟨g, cap, cur, rfl, h1, hg, h2⟩
  · exact .inl h
  · exact .inr ⟨g, cap, cur, rfl, h1, (hk g rfl).trans hg, h2⟩
theorem OwnS.lt {w : World} {B : Nat} {v : Value} {ms : List Sn} (h : OwnS w B v ms) : ∀ g, v.ownBlock = some g → B ≤ g ∧ g < w.heap.size := World.ownsRow.lt h
theorem OwnS.below {w w' : World} {B : Nat} {v : Value} {ms : List Sn} (h : OwnS w B v ms) (hb : Below w.heap.size w w') : OwnS w' B v ms := h.kept fun g hg => hb.block g (h.lt g hg).2
theorem OwnS.alloc {w : World} {B : Nat} {v : Value} {ms : List Sn} (h : OwnS w B v ms) (o : Obj) : OwnS (w.alloc o) B v ms := h.below ((Below.refl _ _).alloc (Nat.le_refl _) _)
theorem OwnS.made (w : World) (B : Nat) (hB : B ≤ w.heap.size) : OwnS (w.alloc (.cells #[] 105)) B (.slice (some ⟨w.heap.size, 0, none⟩) 0 0) [] := World.ownsRow_made w #[] 0 hB (by decide) rfl
theorem OwnS.nil (w : World) (B : Nat) : OwnS w B (.slice none 0 0) [] := World.ownsRow_nil _ _ _ _
theorem OwnS.slice {w : World} {B : Nat} {v : Value} {ms : List Sn} (h : OwnS w B v ms) : ∃ a cap, v = .slice a ms.length cap := by
  obtain ⟨_, h | ⟨g, cap, cur, he, _⟩⟩ := h
  · exact ⟨none, 0, by rw [h.1, h.2]⟩
  · exact ⟨_, cap, he⟩
theorem OwnS.mono {w : World} {B B' : Nat} {v : Value} {ms : List Sn} (h : OwnS w B v ms) (hb : B' ≤ B) : OwnS w B' v ms := by
  obtain ⟨hl, h⟩ := h
  refine ⟨hl, ?_⟩
  rcases h with h | ⟨g, cap, cur, rfl, h1, hg, h2⟩
  · exact .inl h
  · exact .inr ⟨g, cap, cur, rfl, Nat.le_trans hb h1, hg, h2⟩
theorem OwnS.row {w : World} {B : Nat} {v : Value} {ms : List Sn} (h : OwnS w B v ms) : RowS w v ms := by
  obtain ⟨hl, h⟩ := h
  rcases h with ⟨rfl, h0⟩ | ⟨g, cap, cur, rfl, hB, hg, hc, _, hs, htk⟩
  · exact ⟨none, 0, by rw [h0], .inl (List.length_eq_zero_iff.1 h0)⟩
  · refine ⟨_, cap, rfl, .inr ⟨g, 0, rfl, hc, (Array.getElem?_eq_some_iff.1 hg).1, fun i x hi => ?_⟩⟩
    have hil := (List.getElem?_eq_some_iff.1 hi).1
    have key : ∀ j u, j < 6 → (clS x)[j]? = some u → w.cell? ⟨g, 0 + i * 6 + j, none⟩ = some u := fun j u hj hu => by
      rw [Nat.zero_add, Joins.cell_of_block hg, ← Array.getElem?_toList]
      have h1 := atS ms i x j hi hj
      rw [← htk, List.getElem?_take, if_pos (by omega)] at h1
      rw [h1, hu]
    exact ⟨key 0 _ (by decide) rfl, key 1 _ (by decide) rfl, key 2 _ (by decide) rfl, key 3 _ (by decide) rfl, key 4 _ (by decide) rfl, key 5 _ (by decide) rfl⟩
theorem infoS : (Tryz.prog.info? 105).map (fun i => (i.zero, i.size, i.bytes)) = some (some (.agg #[.int .i64 0, .int .i64 0, .int .i64 0, .int .i64 0, .int .i64 0, .int .i64 0]), 6, 48) := by kernel_rfl
theorem srcS {w : World} {a : Addr} {xs : List Sn} {cap : Nat} (h : RowS w (.slice (some a) xs.length cap) xs) : ∀ j u, (xs.flatMap clS)[j]? = some u → w.cell? (a.add j) = some u := by
  intro j u hj
  have hlt := (List.getElem?_eq_some_iff.1 hj).1
  rw [lenS] at hlt
  obtain ⟨x, hx⟩ : ∃ x, xs[j / 6]? = some x := ⟨_, List.getElem?_eq_getElem (by omega)⟩
  obtain ⟨b, off, hab, _, hE⟩ := RowG.at h rfl hx
  cases hab
  have h2 := atS xs (j / 6) x (j % 6) hx (Nat.mod_lt _ (by decide))
  rw [show j / 6 * 6 + j % 6 = j by omega, hj] at h2
  rw [addr_add, show off + j = off + j / 6 * 6 + j % 6 by omega]
  obtain ⟨e0, e1, e2, e3, e4, e5⟩ := hE
  rcases (by omega : j % 6 = 0 ∨ j % 6 = 1 ∨ j % 6 = 2 ∨ j % 6 = 3 ∨ j % 6 = 4 ∨ j % 6 = 5) with q | q | q | q | q | q
  · rw [q] at h2 ⊢; exact e0.trans h2.symm
  · rw [q] at h2 ⊢; exact e1.trans h2.symm
  · rw [q] at h2 ⊢; exact e2.trans h2.symm
  · rw [q] at h2 ⊢; exact e3.trans h2.symm
  · rw [q] at h2 ⊢; exact e4.trans h2.symm
  · rw [q] at h2 ⊢; exact e5.trans h2.symm
theorem appS {P : Program} {ops : Array Oper} {rest : List Oper} {o : Oper} {a : Act} {Q : Exit → Act → World → Prop} (hgd : o.guard = none) (s x : Operand) (t : TypeId)
    (ho : o.op = .call { callee := .builtin .append, args := #[s, x], argTypes := #[t, t] }) (i : TypeInfo) (ht : P.underlying t = some (.slice 105)) (hi : P.info? 105 = some i) (hz : i.zero = some (.agg #[.int .i64 0, .int .i64 0, .int .i64 0, .int .i64 0, .int .i64 0, .int .i64 0]))
    (hsize : i.size = 6) (hby : i.bytes = 48) (B : Nat) (w0 W : World) (v u : Value) (zs xs : List Sn) (hs : a.eval s = v) (hown : OwnS W B v zs) (hbel : Below B w0 W) (hB : B ≤ W.heap.size)
    (hx : a.eval x = u) (hu : RowS W u xs) (hlen : zs.length + xs.length ≤ 1000000)
    (h : ∀ v' w', OwnS w' B v' (zs ++ xs) → Below B w0 w' → (∀ k, k < W.heap.size → some k ≠ v.ownBlock → w'.heap[k]? = W.heap[k]?) → wpList P ops Q rest (a.put o.dst v') w') : wpList P ops Q (o :: rest) a W := by
  have hu' := hu
  obtain ⟨ad, cap, rfl, hc⟩ := hu
  have hown2 := hown
  unfold OwnS at hown2
  cases ad with
  | none =>
    obtain rfl : xs = [] := by
      rcases hc with h | ⟨_, _, h, _⟩
      · exact h
      · cases h
    have hr : (Builtin.append_ #[t, t] o.type #[v, .slice none 0 cap]).run P W = .ok v W := by
      rcases hown2.2 with ⟨rfl, _⟩ | ⟨g, c, cur, rfl, _, _, hn, _⟩
      · exact run_append_nothing W t t o.type _ i ht hi none 0 0 (Nat.le_refl _) _ (Src.ofNil W ht cap)
      · exact run_append_nothing W t t o.type _ i ht hi _ _ _ hn _ (Src.ofNil W ht cap)
    refine wpList_plain hgd fun K hK => ?_
    unfold Oper.wp execOp
    simp only [ho, resolve, invoke, builtin, Sem.run_bind, Sem.run_pure, Result.andThen_ok, List.map_toArray, List.map_cons, List.map_nil, hs, hx, List.length_nil, hr]
    exact hK _ _ (h v W (by simpa using hown) hbel (fun _ _ _ => rfl))
  | some ad =>
    refine wpList_append_own_at (P := P) _ hgd s x t ho B 105 i _ 6 48 ht hi hz hsize hby rfl (by decide) v zs.length _ hs hown2 ad xs.length cap (xs.flatMap clS) hx (lenS xs) (srcS hu') (memS xs) (by unfold maxLen; omega) (by omega) hB ?_
    intro v' w' h1 h2 h3 h4
    exact h v' w' (by unfold OwnS; rw [List.flatMap_append, List.length_append]; exact h1) (hbel.grown h2 hB (fun k hk => (hown2.lt k hk).1)) (fun k hk hn => h2.block k hk hn)
end Go.Proofs.YtnebohdlndiejaaGreatDoor.Wa

/- Locks in a slice of one's own. -/
namespace Go.Proofs.YtnebohdlndiejaaGreatDoor.Lo
open Go.RowKit Go.Proofs.YtnebohdlndiejaaGreatDoor.Sl Go.Proofs.YtnebohdlndiejaaGreatDoor.By Go.Proofs.YtnebohdlndiejaaGreatDoor.Ap Go.Proofs.YtnebohdlndiejaaGreatDoor.Tb Go.Proofs.YtnebohdlndiejaaGreatDoor.Tw Go.Proofs.YtnebohdlndiejaaGreatDoor.Mw Go.Proofs.YtnebohdlndiejaaGreatDoor.Wa
open Go.Proofs.YtnebohdlndiejaaGreatDoor.Tx (bel_new)
/-- A lock, and where its waiters lie. -/
abbrev LkA := Lk × Option Addr × Nat
def uV (p : LkA) : Value := .slice p.2.1 p.1.ws.length p.2.2
def clL (p : LkA) : List Value := [.string p.1.n, .int .i64 p.1.t, .int .i64 p.1.h, .int .i64 p.1.e, uV p]
theorem oneL (p : LkA) : ∀ u ∈ clL p, u.oneCell' = true := by
  intro u hu
  unfold clL at hu
  simp only [List.mem_cons, List.not_mem_nil, or_false] at hu
  rcases hu with h | h | h | h | h <;> (rw [h]; rfl)
theorem lenL : ∀ (ms : List LkA), (ms.flatMap clL).length = ms.length * 5
  | [] => rfl
  | x :: xs => by rw [List.flatMap_cons, List.length_append, lenL xs]; show 5 + _ = _; rw [List.length_cons]; omega
theorem atL : ∀ (ms : List LkA) (i : Nat) (x : LkA) (j : Nat), ms[i]? = some x → j < 5 → (ms.flatMap clL)[i * 5 + j]? = (clL x)[j]?
  | [], i, x, j, h, _ => by simp at h
  | y :: ys, 0, x, j, h, hj => by
    simp at h
    subst h
    rw [List.flatMap_cons, Nat.zero_mul, Nat.zero_add, List.getElem?_append_left (by show _ < 5; exact hj)]
  | y :: ys, i + 1, x, j, h, hj => by
    have h' : ys[i]? = some x := by simpa using h
    rw [List.flatMap_cons, List.getElem?_append_right (by show 5 ≤ _; omega), show (i + 1) * 5 + j - (clL y).length = i * 5 + j by show _ - 5 = _; omega]
    exact atL ys i x j h' hj
def OwnL (w : World) (B : Nat) (v : Value) (ms : List LkA) : Prop := w.ownsRow B 98 5 v ms.length (ms.flatMap clL)
theorem OwnL.kept {w w' : World} {B : Nat} {v : Value} {ms : List LkA} (h : OwnL w B v ms) (hk : ∀ g, v.ownBlock = some g → w'.heap[g]? = w.heap[g]?) : OwnL w' B v ms := by
  obtain ⟨hl, h⟩ := h
  refine ⟨hl, ?_⟩
  rcases h with h | ⟨g, cap, cur, rfl, h1, hg, h2⟩
  · exact .inl h
  · exact .inr ⟨g, cap, cur, rfl, h1, (hk g rfl).trans hg, h2⟩
theorem OwnL.lt {w : World} {B : Nat} {v : Value} {ms : List LkA} (h : OwnL w B v ms) : ∀ g, v.ownBlock = some g → B ≤ g ∧ g < w.heap.size := World.ownsRow.lt h
theorem OwnL.below {w w' : World} {B : Nat} {v : Value} {ms : List LkA} (h : OwnL w B v ms) (hb : Below w.heap.size w w') : OwnL w' B v ms := h.kept fun g hg => hb.block g (h.lt g hg).2
theorem OwnL.alloc {w : World} {B : Nat} {v : Value} {ms : List LkA} (h : OwnL w B v ms) (o : Obj) : OwnL (w.alloc o) B v ms := h.below (bel_new _ _)
theorem OwnL.slice {w : World} {B : Nat} {v : Value} {ms : List LkA} (h : OwnL w B v ms) : ∃ a cap, v = .slice a ms.length cap := by
  obtain ⟨_, h | ⟨g, cap, cur, he, _⟩⟩ := h
  · exact ⟨none, 0, by rw [h.1, h.2]⟩
  · exact ⟨_, cap, he⟩
/-- Rows of things of different kinds lie in different blocks. -/
theorem own_block {w : World} {B e n m : Nat} {v : Value} {xs : List Value} (h : w.ownsRow B e n v m xs) {g : Nat} (hg : v.ownBlock = some g) : ∃ cur, w.heap[g]? = some (.cells cur e (0, 0)) := by
  obtain ⟨_, ⟨rfl, _⟩ | ⟨g', cap, cur, rfl, _, h1, _⟩⟩ := h
  · cases hg
  · cases hg; exact ⟨cur, h1⟩
theorem kind_ne {w : World} {g x : Nat} {cs ds : Array Value} {e d : TypeId} (h : w.heap[g]? = some (.cells cs e (0, 0))) (k : w.heap[x]? = some (.cells ds d (0, 0))) (hne : e ≠ d) : g ≠ x := by
  rintro rfl
  rw [h] at k
  injection k with k
  injection k with _ k
  exact hne k
theorem OwnL.row {w : World} {B : Nat} {v : Value} {ms : List LkA} (h : OwnL w B v ms) (hr : ∀ p ∈ ms, RowW w (uV p) p.1.ws) : RowL w v (ms.map (·.1)) := by
  obtain ⟨hl, h⟩ := h
  rcases h with ⟨rfl, h0⟩ | ⟨g, cap, cur, rfl, hB, hg, hc, _, hs, htk⟩
  · exact ⟨none, 0, by rw [List.length_map, h0], .inl (by rw [List.length_eq_zero_iff.1 h0]; rfl)⟩
  · refine ⟨_, cap, by rw [List.length_map], .inr ⟨g, 0, rfl, by rw [List.length_map]; exact hc, (Array.getElem?_eq_some_iff.1 hg).1, fun i x hi => ?_⟩⟩
    rw [List.getElem?_map] at hi
    obtain ⟨p, hp, rfl⟩ := Option.map_eq_some_iff.1 hi
    have hil := lt_at hp
    have key : ∀ j u, j < 5 → (clL p)[j]? = some u → w.cell? ⟨g, 0 + i * 5 + j, none⟩ = some u := fun j u hj hu => by
      rw [Nat.zero_add, Joins.cell_of_block hg, ← Array.getElem?_toList]
      have h1 := atL ms i p j hp hj
      rw [← htk, List.getElem?_take, if_pos (by omega)] at h1
      rw [h1, hu]
    exact ⟨uV p, key 0 _ (by decide) rfl, key 1 _ (by decide) rfl, key 2 _ (by decide) rfl, key 3 _ (by decide) rfl, key 4 _ (by decide) rfl, hr p (mem_at hp)⟩
theorem infoL : (Tryz.prog.info? 98).map (fun i => (i.zero, i.size, i.bytes)) = some (some (.agg #[.string ⟨#[]⟩, .int .i64 0, .int .i64 0, .int .i64 0, .slice none 0 0]), 5, 64) := by kernel_rfl
/-- One lock more. -/
theorem list_lk {P : Program} {ops : Array Oper} {rest : List Oper} {o : Oper} {a : Act} {Q : Exit → Act → World → Prop} (hgd : o.guard = none) (s x : Operand) (t : TypeId)
    (ho : o.op = .call { callee := .builtin .append, args := #[s, x], argTypes := #[t, t] }) (i : TypeInfo) (ht : P.underlying t = some (.slice 98)) (hi : P.info? 98 = some i) (hz : i.zero = some (.agg #[.string ⟨#[]⟩, .int .i64 0, .int .i64 0, .int .i64 0, .slice none 0 0]))
    (hsize : i.size = 5) (hby : i.bytes = 64) (B : Nat) (w0 W : World) (v : Value) (ms : List LkA) (m : LkA) (hs : a.eval s = v) (hown : OwnL W B v ms) (hg0 : Below B w0 W) (hB : B ≤ W.heap.size)
    (gx : Nat) (hx : a.eval x = .slice (some ⟨gx, 0, none⟩) 1 1) (hgx : W.heap.size = gx) (hlen : ms.length ≤ 1000000)
    (h : ∀ v' w', OwnL w' B v' (ms ++ [m]) → Below B w0 w' → (∀ k, k < W.heap.size → some k ≠ v.ownBlock → w'.heap[k]? = W.heap[k]?) → wpList P ops Q rest (a.put o.dst v') w') : wpList P ops Q (o :: rest) a (W.alloc (.cells #[.string m.1.n, .int .i64 m.1.t, .int .i64 m.1.h, .int .i64 m.1.e, .slice m.2.1 m.1.ws.length m.2.2] 98)) := by
  subst hgx
  have hown' := hown.alloc (.cells #[.string m.1.n, .int .i64 m.1.t, .int .i64 m.1.h, .int .i64 m.1.e, .slice m.2.1 m.1.ws.length m.2.2] 98)
  refine wpList_append_own_at (P := P) _ hgd s x t ho B 98 i _ 5 64 ht hi hz hsize hby rfl (by decide) v ms.length _ hs hown' ⟨W.heap.size, 0, none⟩ 1 1 (clL m) hx rfl ?_ (oneL m) (by unfold maxLen; omega) (by omega) (by simp; omega) ?_
  · intro j u hj
    have h2 : (⟨W.heap.size, 0, none⟩ : Addr).add j = ⟨W.heap.size, j, none⟩ := by unfold Addr.add; split <;> simp_all
    rw [h2, Joins.cell_of_block (heap_alloc_new W _), ← hj]
    simp [clL, uV]
  · intro v' w' h1 h2 h3 h4
    exact h v' w' (by unfold OwnL; rw [List.flatMap_append, List.length_append]; simpa using h1) ((hg0.alloc hB _).grown h2 (by simp; omega) (fun k hk => (hown'.lt k hk).1)) (fun k hk hn => (h2.block k (by simp; omega) hn).trans (Below.heap_alloc W _ k hk))
theorem OwnL.mono {w : World} {B B' : Nat} {v : Value} {ms : List LkA} (h : OwnL w B v ms) (hb : B' ≤ B) : OwnL w B' v ms := by
  obtain ⟨hl, h⟩ := h
  refine ⟨hl, ?_⟩
  rcases h with h | ⟨g, cap, cur, rfl, h1, hg, h2⟩
  · exact .inl h
  · exact .inr ⟨g, cap, cur, rfl, Nat.le_trans hb h1, hg, h2⟩
end Go.Proofs.YtnebohdlndiejaaGreatDoor.Lo
