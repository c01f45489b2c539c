/- Texts put together: Mw, Mv, Mv2, Xk, Hm. -/
import Derived.Test.YtnebohdlndiejaaGreatDoorTw4
import Derived.Deep.RegionWith
import Derived.Test.YtnebohdlndiejaaGreatDoorJMakeStable0
import Derived.Test.YtnebohdlndiejaaGreatDoorXo
import Derived.Test.YtnebohdlndiejaaGreatDoorShaX
import Derived.Test.YtnebohdlndiejaaGreatDoorEr
import Derived.Test.YtnebohdlndiejaaGreatDoorCards
import Derived.Test.YtnebohdlndiejaaGreatDoorTie
import Derived.ProofKit
import Derived.LaidMore
import Derived.OpenShut
import Derived.OpenVars
import Derived.Stop.Joined
import Derived.Stop.LaidErr
import Derived.ShutString
import Derived.Lib.LaidTab
/- The laws' marks on tables. -/
namespace Go.Proofs.YtnebohdlndiejaaGreatDoor.Mw
open Go.RowKit Go.Proofs.YtnebohdlndiejaaGreatDoor.Sl Go.Proofs.YtnebohdlndiejaaGreatDoor.By Go.Proofs.YtnebohdlndiejaaGreatDoor.Ap Go.Proofs.YtnebohdlndiejaaGreatDoor.Tx Go.Proofs.YtnebohdlndiejaaGreatDoor.Tb Go.Proofs.YtnebohdlndiejaaGreatDoor.Tw

theorem ret_str {a b : ByteArray} (h : a = b) : Ending.returned (.string a) = .returned (.string b) := by rw [h]
/-- The digits of a number, ahead of a text. -/
def mtGo : Nat → Nat → ByteArray → ByteArray
  | 0, _, s => s
  | f + 1, k, s => if k = 0 then s else mtGo f (k / 10) (strOfNums [48 + ((k % 10 : Nat) : Int)] ++ s)
def mtext (k : Nat) : ByteArray := (⟨#[109]⟩ : ByteArray) ++ mtGo (k + 1) k ⟨#[]⟩

set_option maxRecDepth 100000 in
set_option maxHeartbeats 400000 in
theorem markText_any (k : Nat) (w : World) (h0 : 0 < k) (h1 : k ≤ 1125899906842624) :
    Calls Tryz.prog 53 #[.int .i64 k] w fun e w' => e = .returned (.string (mtext k)) ∧ Below w.heap.size w w' := by
  have h0' : ¬ (k : Int) ≤ 0 := by omega
  have h1' : (k : Int) ≤ 1125899906842624 := by omega
  have HT : Hid (mtext k = (⟨#[109]⟩ : ByteArray) ++ mtGo (k + 1) k ⟨#[]⟩) := rfl
  go_enter Tryz.func53, Tryz.ntmps53
  go_wp2_with fail
  go_loopw [0, 3] (fun n s wr => ∃ (q f : Nat) (t : ByteArray), n = .int .i64 q ∧ s = .string t ∧ q ≤ 1125899906842624 ∧ t.size + q ≤ 1125899906842624 ∧ Hid (q < f ∧ mtGo f q t = mtGo (k + 1) k ⟨#[]⟩) ∧ Below w.heap.size w wr) (fun n _ _ => (intOf n).toNat)
  case atStart => exact ⟨k, k + 1, ⟨#[]⟩, rfl, rfl, by omega, by simp [ByteArray.size]; omega, ⟨by omega, rfl⟩, Below.refl _ _⟩
  case round =>
    obtain ⟨q, f, t, rfl, rfl, hq, hts, HF, hbel⟩ := hrel
    by_cases hz : 0 < q
    · have hz' : (0 : Int) < (q : Int) := by omega
      have hcv := By.run_convert_own (P := Tryz.prog) (wr.alloc (.cells #[.int .u8 (48 + (q : Int) % 10)] 5)) wr.heap.size 86 5 9 Tryz.underlying86 Tryz.underlying5 Tryz.underlying9 (.slice (some ⟨wr.heap.size, 0, none⟩) 1 1) [48 + (q : Int) % 10] (own_one 5 wr wr.heap.size (48 + (q : Int) % 10) (Nat.le_refl _))
      have hs1 : (strOfNums [48 + (q : Int) % 10]).size = 1 := by rw [strOfNums_size]; rfl
      have hsz : ¬ 9223372036854775807 < (strOfNums [48 + (q : Int) % 10]).size + t.size := by rw [hs1]; omega
      have HS1 : Hid ((strOfNums [48 + (q : Int) % 10]).size = 1) := hs1
      have HE : Hid (∃ f', q / 10 < f' ∧ mtGo f' (q / 10) (strOfNums [48 + (q : Int) % 10] ++ t) = mtGo (k + 1) k ⟨#[]⟩) := by
        obtain ⟨e1, e2⟩ := HF.out
        cases f with
        | zero => omega
        | succ f =>
          refine ⟨f, by omega, ?_⟩
          rw [← e2]
          show _ = if q = 0 then t else mtGo f (q / 10) (strOfNums [48 + ((q % 10 : Nat) : Int)] ++ t)
          rw [if_neg (by omega)]
          rfl
      clear hs1 HF
      go_wp2_with fail
      obtain ⟨f', e1, e2⟩ := HE.out
      exact ⟨⟨q / 10, f', strOfNums [48 + (q : Int) % 10] ++ t, by simp, rfl, by omega, by rw [ByteArray.size_append, HS1.out]; omega, ⟨e1, e2⟩, hbel.alloc hbel.size _⟩, by simp [intOf]; omega⟩
    · have hz0 : q = 0 := by omega
      have HE : Hid (mtGo (k + 1) k ⟨#[]⟩ = t) := by
        show _ = _
        obtain ⟨e1, e2⟩ := HF.out
        rw [← e2, hz0]
        cases f with
        | zero => rfl
        | succ f => rfl
      have hz' : ¬ (0 : Int) < (q : Int) := by omega
      have hz2 : ¬ 0 < q := hz
      have hsz2 : ¬ 9223372036854775807 < 1 + t.size := by omega
      have hsz3 : ¬ 9223372036854775807 < (⟨#[109]⟩ : ByteArray).size + t.size := hsz2
      clear hz0
      go_wp2
      go_ret
      exact ⟨ret_str (by rw [HT.out, HE.out]), hbel⟩

/-- From w to w' only blocks from B on and below C were written, and new ones. -/
structure Mid (B C : Nat) (w w' : World) : Prop where
  os : w'.os = w.os
  tape : w'.tape = w.tape
  output : w'.output = w.output
  size : w.heap.size ≤ w'.heap.size
  block : ∀ k, k < w.heap.size → (k < B ∨ C ≤ k) → w'.heap[k]? = w.heap[k]?
theorem Mid.refl (B C : Nat) (w : World) : Mid B C w w := ⟨rfl, rfl, rfl, Nat.le_refl _, fun _ _ _ => rfl⟩
theorem Mid.trans {B C : Nat} {w w1 w2 : World} (h : Mid B C w w1) (g : Mid B C w1 w2) : Mid B C w w2 :=
  ⟨g.os.trans h.os, g.tape.trans h.tape, g.output.trans h.output, Nat.le_trans h.size g.size, fun k hk hn => (g.block k (Nat.lt_of_lt_of_le hk h.size) hn).trans (h.block k hk hn)⟩
theorem Mid.of_below {B C : Nat} {w w1 : World} (h : Below w.heap.size w w1) : Mid B C w w1 := ⟨h.os, h.tape, h.output, h.size, fun k hk _ => h.block k hk⟩
theorem Mid.set {B C : Nat} {w : World} {g : Nat} (h1 : B ≤ g) (h2 : g < C) (j : Nat) (x : Value) : Mid B C w (w.setCell ⟨g, j, none⟩ x) :=
  ⟨rfl, rfl, rfl, by simp, fun k _ hk => Below.heap_setCell w ⟨g, j, none⟩ x k (fun e => by have e' : k = g := e; omega)⟩
theorem Mid.below {B C : Nat} {w w1 : World} (h : Mid B C w w1) (hB : B ≤ w.heap.size) : Below B w w1 := ⟨h.os, h.tape, h.output, h.size, fun k hk => h.block k (Nat.lt_of_lt_of_le hk hB) (.inl hk)⟩
theorem own_mid {e : TypeId} {B C : Nat} {w w' : World} {v : Value} {zs : List Int} (h : OwnB e w C v zs) (hm : Mid B C w w') : OwnB e w' C v zs := by
  obtain ⟨hl, h⟩ := h
  refine ⟨hl, ?_⟩
  rcases h with h | ⟨g, cap, cur, rfl, h1, hg, h2⟩
  · exact .inl h
  · exact .inr ⟨g, cap, cur, rfl, h1, (hm.block g (Array.getElem?_eq_some_iff.1 hg).1 (.inr h1)).trans hg, h2⟩
/-- A block of n cells that may be written. -/
def Wr (w : World) (g n : Nat) : Prop := ∃ A t, w.heap[g]? = some (.cells A t (0, 0)) ∧ n ≤ A.size
theorem Wr.lt {w : World} {g n : Nat} (h : Wr w g n) : g < w.heap.size := by obtain ⟨A, t, h, _⟩ := h; exact (Array.getElem?_eq_some_iff.1 h).1
theorem Wr.below {w w' : World} {g n : Nat} (h : Wr w g n) (hb : Below w.heap.size w w') : Wr w' g n := by
  obtain ⟨A, t, h, hn⟩ := h
  exact ⟨A, t, (hb.block g (Array.getElem?_eq_some_iff.1 h).1).trans h, hn⟩
theorem Wr.set {w : World} {g n : Nat} (h : Wr w g n) (p j : Nat) (x : Value) : Wr (w.setCell ⟨p, j, none⟩ x) g n := by
  obtain ⟨A, t, h, hn⟩ := h
  by_cases e : p = g
  · subst e
    exact ⟨_, t, blk_set h j x, by rw [Array.size_setIfInBounds]; exact hn⟩
  · exact ⟨A, t, (blk_far (fun h => e h.symm) j x).trans h, hn⟩
theorem Wr.cell {w : World} {g n : Nat} (h : Wr w g n) {j : Nat} (hj : j < n) : (∃ x, w.cell? ⟨g, j, none⟩ = some x) ∧ w.frozen? ⟨g, j, none⟩ = false := by
  obtain ⟨A, t, h, hn⟩ := h
  obtain ⟨c, f⟩ := blk_cell h j (x := A[j]'(by omega)) (Array.getElem?_eq_getElem (by omega))
  exact ⟨⟨_, c⟩, f⟩
/-- What a mark keeps of the blocks that may be written. -/
def Kw (w w' : World) : Prop := ∀ g n, Wr w g n → Wr w' g n
theorem Kw.trans {w w1 w2 : World} (h : Kw w w1) (g : Kw w1 w2) : Kw w w2 := fun a n x => g a n (h a n x)
set_option maxRecDepth 100000 in
set_option maxHeartbeats 800000 in
theorem markWaiterS_any (g n : Nat) (a : Nat) (B C : Nat) (w : World) (h : Wr w g (n * 2)) (hB : B ≤ g) (hC : g < C) (hn : n ≤ 1048576) (ha : a ≤ 1000000000000000) :
    Calls Tryz.prog 77 #[.slice (some ⟨g, 0, none⟩) n n, .int .i64 a] w fun e w' => e = .returned (.int .i64 ((a + n * 2 : Nat) : Int)) ∧ Mid B C w w' ∧ Kw w w' ∧ (∀ k, k < w.heap.size → k ≠ g → w'.heap[k]? = w.heap[k]?) := by
  have H : Hid (Wr w g (n * 2)) := h
  clear h
  go_enter Tryz.func77, Tryz.ntmps77
  go_wp2_with fail
  go_loopw [1, 5] (fun k i wr => ∃ q : Nat, q ≤ n ∧ k = .int .i64 ((a + q * 2 : Nat) : Int) ∧ i = .int .i64 q ∧ Hid (Wr wr g (n * 2) ∧ Mid B C w wr ∧ Kw w wr ∧ (∀ k, k < w.heap.size → k ≠ g → wr.heap[k]? = w.heap[k]?))) (fun _ i _ => n - (intOf i).toNat)
  case atStart => exact ⟨0, by omega, by simp, rfl, H.out, Mid.refl _ _ _, fun _ _ h => h, fun _ _ _ => rfl⟩
  case round =>
    obtain ⟨q, hq, rfl, rfl, HA⟩ := hrel
    by_cases hlt : q < n
    · obtain ⟨⟨x0, c0⟩, f0⟩ := HA.out.1.cell (j := q * 2) (by omega)
      obtain ⟨⟨x1, c1⟩, f1⟩ := HA.out.1.cell (j := q * 2 + 1) (by omega)
      have hne : (⟨g, q * 2 + 1, none⟩ : Addr) ≠ ⟨g, q * 2, none⟩ := fun e => by have e' : q * 2 + 1 = q * 2 := congrArg Addr.off e; omega
      go_wp2_with fail
      refine ⟨⟨q + 1, by omega, by go_num, by go_num, (HA.out.1.set _ _ _).set _ _ _, HA.out.2.1.trans ((Mid.set hB hC _ _).trans (Mid.set hB hC _ _)), HA.out.2.2.1.trans fun _ _ h => (h.set _ _ _).set _ _ _, fun k hk hk2 => ?_⟩, by simp [intOf]; omega⟩
      exact ((blk_far hk2 _ _).trans (blk_far hk2 _ _)).trans (HA.out.2.2.2 k hk hk2)
    · obtain rfl : q = n := by omega
      go_wp2_with fail
      go_ret
      exact ⟨rfl, HA.out.2.1, HA.out.2.2.1, HA.out.2.2.2⟩
set_option maxRecDepth 100000 in
set_option maxHeartbeats 1600000 in
theorem markSeenS_any (g n : Nat) (a : Nat) (B C : Nat) (w : World) (h : Wr w g (n * 6)) (hB : B ≤ g) (hC : g < C) (hn : n ≤ 1048576) (ha : a ≤ 1000000000000000) :
    Calls Tryz.prog 41 #[.slice (some ⟨g, 0, none⟩) n n, .int .i64 a] w fun e w' => e = .returned (.int .i64 ((a + n * 6 : Nat) : Int)) ∧ Mid B C w w' := by
  have H : Hid (Wr w g (n * 6)) := h
  clear h
  go_enter Tryz.func41, Tryz.ntmps41
  go_wp2_with fail
  go_loopw [1, 5] (fun k i wr => ∃ q : Nat, q ≤ n ∧ k = .int .i64 ((a + q * 6 : Nat) : Int) ∧ i = .int .i64 q ∧ Hid (Wr wr g (n * 6) ∧ Mid B C w wr)) (fun _ i _ => n - (intOf i).toNat)
  case atStart => exact ⟨0, by omega, by simp, rfl, H.out, Mid.refl _ _ _⟩
  case round =>
    obtain ⟨q, hq, rfl, rfl, HA⟩ := hrel
    by_cases hlt : q < n
    · obtain ⟨⟨x0, c0⟩, f0⟩ := HA.out.1.cell (j := q * 6) (by omega)
      obtain ⟨⟨x1, c1⟩, f1⟩ := HA.out.1.cell (j := q * 6 + 1) (by omega)
      obtain ⟨⟨x2, c2⟩, f2⟩ := HA.out.1.cell (j := q * 6 + 2) (by omega)
      obtain ⟨⟨x3, c3⟩, f3⟩ := HA.out.1.cell (j := q * 6 + 3) (by omega)
      obtain ⟨⟨x4, c4⟩, f4⟩ := HA.out.1.cell (j := q * 6 + 4) (by omega)
      obtain ⟨⟨x5, c5⟩, f5⟩ := HA.out.1.cell (j := q * 6 + 5) (by omega)
      go_wp2_with fail
      refine ⟨⟨q + 1, by omega, by go_num, by go_num, (((((HA.out.1.set _ _ _).set _ _ _).set _ _ _).set _ _ _).set _ _ _).set _ _ _, ?_⟩, by simp [intOf]; omega⟩
      exact HA.out.2.trans ((Mid.set hB hC _ _).trans ((Mid.set hB hC _ _).trans ((Mid.set hB hC _ _).trans ((Mid.set hB hC _ _).trans ((Mid.set hB hC _ _).trans (Mid.set hB hC _ _))))))
    · obtain rfl : q = n := by omega
      go_wp2_with fail
      go_ret
      exact ⟨rfl, HA.out.2⟩
/-- Locks that may be marked: each with those that wait in a block of their own. -/
def WrL (B C : Nat) (w : World) (g : Nat) (ns : List Nat) : Prop := Wr w g (ns.length * 5) ∧ ∀ (j m : Nat), ns[j]? = some m → ∃ h, w.cell? ⟨g, j * 5 + 4, none⟩ = some (.slice (some ⟨h, 0, none⟩) m m) ∧ B ≤ h ∧ h < C ∧ h ≠ g ∧ Wr w h (m * 2)
theorem WrL.below {B C : Nat} {w w' : World} {g : Nat} {ns : List Nat} (h : WrL B C w g ns) (hb : Below w.heap.size w w') : WrL B C w' g ns :=
  ⟨h.1.below hb, fun j m hj => by
    obtain ⟨q, h1, h2, h3, h4, h5⟩ := h.2 j m hj
    exact ⟨q, (hb.cell (p := ⟨g, _, none⟩) h.1.lt).trans h1, h2, h3, h4, h5.below hb⟩⟩
theorem WrL.set {B C : Nat} {w : World} {g : Nat} {ns : List Nat} (h : WrL B C w g ns) (i : Nat) (x : Value) (hi : ∀ j, i ≠ j * 5 + 4) : WrL B C (w.setCell ⟨g, i, none⟩ x) g ns :=
  ⟨h.1.set _ _ _, fun j m hj => by
    obtain ⟨q, h1, h2, h3, h4, h5⟩ := h.2 j m hj
    exact ⟨q, (World.cell?_setCell_other _ _ _ _ (fun e => hi j (by have := congrArg Addr.off e; exact this))).trans h1, h2, h3, h4, h5.set _ _ _⟩⟩
theorem WrL.kept {B C : Nat} {w w' : World} {g p : Nat} {ns : List Nat} (h : WrL B C w g ns) (hp : p ≠ g) (hk : Kw w w') (ho : ∀ k, k < w.heap.size → k ≠ p → w'.heap[k]? = w.heap[k]?) : WrL B C w' g ns :=
  ⟨hk _ _ h.1, fun j m hj => by
    obtain ⟨q, h1, h2, h3, h4, h5⟩ := h.2 j m hj
    exact ⟨q, (World.cell?_of_block (w := w) (ho g h.1.lt (Ne.symm hp))).trans h1, h2, h3, h4, hk _ _ h5⟩⟩
set_option maxRecDepth 100000 in
set_option maxHeartbeats 1600000 in
theorem markLockS_any (g : Nat) (ns : List Nat) (B C : Nat) (w : World) (h : WrL B C w g ns) (hB : B ≤ g) (hC : g < C) (hn : ns.length ≤ 1048576) (hm : ∀ m ∈ ns, m ≤ 1048576) :
    Calls Tryz.prog 40 #[.slice (some ⟨g, 0, none⟩) ns.length ns.length, .int .i64 1] w fun e w' => ∃ r : Nat, e = .returned (.int .i64 (r : Int)) ∧ r ≤ 3000000000000 ∧ Mid B C w w' ∧ Kw w w' := by
  have H : Hid (WrL B C w g ns) := h
  have HM : Hid (∀ m ∈ ns, m ≤ 1048576) := hm
  clear h hm
  go_enter Tryz.func40, Tryz.ntmps40
  go_wp2_with fail
  go_loopw [1, 5] (fun k i wr => ∃ q r : Nat, q ≤ ns.length ∧ k = .int .i64 (r : Int) ∧ 0 < r ∧ r ≤ 1 + q * 2097156 ∧ i = .int .i64 q ∧ Hid (WrL B C wr g ns ∧ Mid B C w wr ∧ Kw w wr)) (fun _ i _ => ns.length - (intOf i).toNat)
  case atStart => exact ⟨0, 1, by omega, rfl, by omega, by omega, rfl, H.out, Mid.refl _ _ _, fun _ _ h => h⟩
  case round =>
    obtain ⟨q, r, hq, rfl, hr0, hr, rfl, HA⟩ := hrel
    by_cases hlt : q < ns.length
    · go_wp2_with fail
      refine (markText_any r _ hr0 (by omega)).mono ?_
      rintro e w2 ⟨rfl, b2⟩
      have HB : Hid (WrL B C w2 g ns ∧ Mid B C w w2 ∧ Kw w w2) := ⟨HA.out.1.below b2, HA.out.2.1.trans (Mid.of_below b2), HA.out.2.2.trans fun _ _ h => h.below b2⟩
      clear b2 HA
      generalize mtext r = mt
      obtain ⟨⟨x0, c0⟩, f0⟩ := HB.out.1.1.cell (j := q * 5) (by omega)
      obtain ⟨⟨x1, c1⟩, f1⟩ := HB.out.1.1.cell (j := q * 5 + 1) (by omega)
      obtain ⟨⟨x2, c2⟩, f2⟩ := HB.out.1.1.cell (j := q * 5 + 2) (by omega)
      obtain ⟨⟨x3, c3⟩, f3⟩ := HB.out.1.1.cell (j := q * 5 + 3) (by omega)
      obtain ⟨m, hm⟩ := Tw.get_at hlt
      obtain ⟨p, c4, p1, p2, p3, p4⟩ := HB.out.1.2 q m hm
      have HP : Hid (ns[q]? = some m) := hm
      clear hm
      have HC : Hid (WrL B C ((((w2.setCell ⟨g, q * 5, none⟩ (.string mt)).setCell ⟨g, q * 5 + 1, none⟩ (.int .i64 ((r : Int) + 1))).setCell ⟨g, q * 5 + 2, none⟩ (.int .i64 ((r : Int) + 1 + 1))).setCell ⟨g, q * 5 + 3, none⟩ (.int .i64 ((r : Int) + 1 + 1 + 1))) g ns ∧ Mid B C w ((((w2.setCell ⟨g, q * 5, none⟩ (.string mt)).setCell ⟨g, q * 5 + 1, none⟩ (.int .i64 ((r : Int) + 1))).setCell ⟨g, q * 5 + 2, none⟩ (.int .i64 ((r : Int) + 1 + 1))).setCell ⟨g, q * 5 + 3, none⟩ (.int .i64 ((r : Int) + 1 + 1 + 1))) ∧ Wr ((((w2.setCell ⟨g, q * 5, none⟩ (.string mt)).setCell ⟨g, q * 5 + 1, none⟩ (.int .i64 ((r : Int) + 1))).setCell ⟨g, q * 5 + 2, none⟩ (.int .i64 ((r : Int) + 1 + 1))).setCell ⟨g, q * 5 + 3, none⟩ (.int .i64 ((r : Int) + 1 + 1 + 1))) p (m * 2) ∧ Kw w ((((w2.setCell ⟨g, q * 5, none⟩ (.string mt)).setCell ⟨g, q * 5 + 1, none⟩ (.int .i64 ((r : Int) + 1))).setCell ⟨g, q * 5 + 2, none⟩ (.int .i64 ((r : Int) + 1 + 1))).setCell ⟨g, q * 5 + 3, none⟩ (.int .i64 ((r : Int) + 1 + 1 + 1)))) :=
        ⟨(((HB.out.1.set _ _ (fun j => by omega)).set _ _ (fun j => by omega)).set _ _ (fun j => by omega)).set _ _ (fun j => by omega), HB.out.2.1.trans ((Mid.set hB hC _ _).trans ((Mid.set hB hC _ _).trans ((Mid.set hB hC _ _).trans (Mid.set hB hC _ _)))), (((p4.set _ _ _).set _ _ _).set _ _ _).set _ _ _, HB.out.2.2.trans fun _ _ h => (((h.set _ _ _).set _ _ _).set _ _ _).set _ _ _⟩
      have HMM : Hid (m ≤ 1048576) := HM.out m (Tw.mem_at HP.out)
      clear p4
      go_wp2_with fail
      generalize ((((w2.setCell ⟨g, q * 5, none⟩ (.string mt)).setCell ⟨g, q * 5 + 1, none⟩ (.int .i64 ((r : Int) + 1))).setCell ⟨g, q * 5 + 2, none⟩ (.int .i64 ((r : Int) + 1 + 1))).setCell ⟨g, q * 5 + 3, none⟩ (.int .i64 ((r : Int) + 1 + 1 + 1))) = w3 at HC ⊢
      have ER : Hid ((r : Int) + 1 + 1 + 1 + 1 = ((r + 4 : Nat) : Int)) := by show _ = _; omega
      rw [ER.out]
      refine (markWaiterS_any p m (r + 4) B C w3 HC.out.2.2.1 p1 p2 HMM.out (by omega)).mono ?_
      rintro e w4 ⟨rfl, m4, k4, o4⟩
      have HD : Hid (WrL B C w4 g ns ∧ Mid B C w w4 ∧ Kw w w4) := ⟨HC.out.1.kept p3 k4 o4, HC.out.2.1.trans m4, HC.out.2.2.2.trans k4⟩
      have hmm : m ≤ 1048576 := HMM.out
      clear m4 k4 o4 c0 c1 c2 c3 c4 f0 f1 f2 f3 HB HC
      go_wp2_with fail
      exact ⟨⟨q + 1, r + 4 + m * 2, by omega, rfl, by omega, by omega, by go_num, HD.out⟩, by simp [intOf]; omega⟩
    · obtain rfl : q = ns.length := by omega
      go_wp2_with fail
      go_ret
      exact ⟨r, rfl, by omega, HA.out.2⟩
/-- A table in new memory that may be written. -/
def TabW (B C : Nat) (w : World) (gl gs : Nat) (ls : List Lk) (ss : List Sn) : Prop := (B ≤ gl ∧ gl < C ∧ B ≤ gs ∧ gs < C) ∧ WrL B C w gl (ls.map fun x => x.ws.length) ∧ Wr w gs (ss.length * 6)
theorem TabW.below {B C : Nat} {w w' : World} {gl gs : Nat} {ls : List Lk} {ss : List Sn} (h : TabW B C w gl gs ls ss) (hb : Below w.heap.size w w') : TabW B C w' gl gs ls ss := ⟨h.1, h.2.1.below hb, h.2.2.below hb⟩
set_option maxRecDepth 100000 in
set_option maxHeartbeats 800000 in
theorem markTable_any (tm nx : Int) (gl gs : Nat) (ls : List Lk) (ss : List Sn) (B C : Nat) (w : World) (h : TabW B C w gl gs ls ss) (h1 : ls.length ≤ 1048576) (h2 : ss.length ≤ 1048576) (h3 : ∀ x ∈ ls, x.ws.length ≤ 1048576) (hCw : C ≤ w.heap.size) :
    Calls Tryz.prog 13 #[tabV tm nx (.slice (some ⟨gl, 0, none⟩) ls.length ls.length) (.slice (some ⟨gs, 0, none⟩) ss.length ss.length), .int .i64 1] w fun e w' => ∃ r : Nat, e = .returned (.int .i64 (r : Int)) ∧ Mid B C w w' := by
  obtain ⟨⟨b1, b2, b3, b4⟩, hl, hs⟩ := h
  have HN : Hid ((ls.map fun x => x.ws.length).length = ls.length ∧ ∀ m ∈ ls.map (fun x => x.ws.length), m ≤ 1048576) := ⟨by simp, fun m hm => by obtain ⟨x, hx, rfl⟩ := List.mem_map.1 hm; exact h3 x hx⟩
  have HL : Hid (∀ W, Below w.heap.size w W → Calls Tryz.prog 40 #[.slice (some ⟨gl, 0, none⟩) ls.length ls.length, .int .i64 1] W fun e w' => ∃ r : Nat, e = .returned (.int .i64 (r : Int)) ∧ r ≤ 3000000000000 ∧ Mid B C W w' ∧ Kw W w') := fun W hW => by
    have h := markLockS_any gl (ls.map fun x => x.ws.length) B C W (hl.below hW) b1 b2 (by rw [HN.out.1]; exact h1) HN.out.2
    rw [HN.out.1] at h
    exact h
  have HS : Hid (Wr w gs (ss.length * 6)) := hs
  clear hl hs h3
  unfold tabV
  have HBN : Hid (Below w.heap.size w (w.alloc (.cells #[.int .i64 tm, .int .i64 nx, .slice (some ⟨gl, 0, none⟩) ls.length ls.length, .slice (some ⟨gs, 0, none⟩) ss.length ss.length] 36)) ∧ (w.alloc (.cells #[.int .i64 tm, .int .i64 nx, .slice (some ⟨gl, 0, none⟩) ls.length ls.length, .slice (some ⟨gs, 0, none⟩) ss.length ss.length] 36)).heap[w.heap.size]? = some (.cells #[.int .i64 tm, .int .i64 nx, .slice (some ⟨gl, 0, none⟩) ls.length ls.length, .slice (some ⟨gs, 0, none⟩) ss.length ss.length] 36) ∧ w.heap.size < (w.alloc (.cells #[.int .i64 tm, .int .i64 nx, .slice (some ⟨gl, 0, none⟩) ls.length ls.length, .slice (some ⟨gs, 0, none⟩) ss.length ss.length] 36)).heap.size) := ⟨bel_new _ _, heap_alloc_new w _, by simp⟩
  go_enter Tryz.func13, Tryz.ntmps13
  go_wp2_with fail
  generalize w.alloc (.cells #[.int .i64 tm, .int .i64 nx, .slice (some ⟨gl, 0, none⟩) ls.length ls.length, .slice (some ⟨gs, 0, none⟩) ss.length ss.length] 36) = wb at HBN ⊢
  refine (HL.out _ HBN.out.1).mono ?_
  rintro e w1 ⟨r, rfl, hr, m1, k1⟩
  have x3 := (blk_cell ((m1.block _ HBN.out.2.2 (.inr hCw)).trans HBN.out.2.1) 3 (x := .slice (some ⟨gs, 0, none⟩) ss.length ss.length) rfl).1
  have HM : Hid (Mid B C w w1 ∧ Wr w1 gs (ss.length * 6)) := ⟨(Mid.of_below HBN.out.1).trans m1, k1 _ _ (HS.out.below HBN.out.1)⟩
  clear m1 k1
  go_wp2_with fail
  refine (markSeenS_any gs ss.length r B C w1 HM.out.2 b3 b4 h2 (by omega)).mono ?_
  rintro e w2 ⟨rfl, m2⟩
  have HM2 : Hid (Mid B C w w2) := HM.out.1.trans m2
  clear m2 x3
  go_wp2_with fail
  go_ret
  exact ⟨_, rfl, HM2.out⟩
end Go.Proofs.YtnebohdlndiejaaGreatDoor.Mw

/- The laws' copies of tables, in new memory that may be written. -/
namespace Go.Proofs.YtnebohdlndiejaaGreatDoor.Mw
open Go.RowKit Go.Proofs.YtnebohdlndiejaaGreatDoor.Sl Go.Proofs.YtnebohdlndiejaaGreatDoor.By Go.Proofs.YtnebohdlndiejaaGreatDoor.Ap Go.Proofs.YtnebohdlndiejaaGreatDoor.Tx Go.Proofs.YtnebohdlndiejaaGreatDoor.Tb Go.Proofs.YtnebohdlndiejaaGreatDoor.Tw

set_option maxRecDepth 100000 in
set_option maxHeartbeats 800000 in
theorem toWaiterSW_any (v : Value) (xs : List Wt) (w : World) (h : RowW w v xs) (hl : xs.length ≤ 1048576) :
    Calls Tryz.prog 99 #[v] w fun e w' => ∃ g, e = .returned (.slice (some ⟨g, 0, none⟩) xs.length xs.length) ∧ w.heap.size ≤ g ∧ g < w'.heap.size ∧ (∀ i x, xs[i]? = some x → EW w' g (i * 2) x) ∧ Below w.heap.size w w' ∧ Wr w' g (xs.length * 2) := by
  have HR : Hid (RowW w v xs) := h
  obtain ⟨a, cap, rfl⟩ := RowG.slice h
  clear h
  obtain ⟨i0, hi, hz0, hz1, hz2⟩ := info_parts info_toWaiterS
  have hmk := run_make (P := Tryz.prog) w 96 101 i0 (.agg #[.int .i64 0, .int .i64 0]) Tryz.underlying96 hi hz0 .i64 .i64 (xs.length : Int) (xs.length : Int) (by omega) (by omega) (by rw [hz2]; omega) (by omega)
  have hA0 : Cop_toWaiterS xs 0 (madeCells (Value.agg #[.int .i64 0, .int .i64 0]).cells ((xs.length : Int).toNat * i0.size)) := ⟨by rw [hz1]; simp [madeCells, Value.cells], fun j x hj => absurd hj (by omega)⟩
  generalize madeCells (Value.agg #[.int .i64 0, .int .i64 0]).cells ((xs.length : Int).toNat * i0.size) = A0 at hmk hA0
  rw [Int.toNat_natCast] at hmk
  go_enter Tryz.func99, Tryz.ntmps99
  go_wp2_with fail
  clear hmk
  go_loopw [4] (fun i wr => ∃ k : Nat, ∃ A : Array Value, k ≤ xs.length ∧ i = .int .i64 k ∧ Hid (wr.heap[w.heap.size]? = some (.cells A 101 (0, 0)) ∧ Cop_toWaiterS xs k A ∧ Below w.heap.size w wr)) (fun i _ => xs.length - (intOf i).toNat)
  case atStart => exact ⟨0, A0, by omega, rfl, ⟨heap_alloc_new w _, hA0, bel_new _ _⟩⟩
  case round =>
    clear hA0
    obtain ⟨k, A, hk, rfl, HA⟩ := hrel
    by_cases hlt : k < xs.length
    · obtain ⟨x, hx⟩ := Tw.get_at hlt
      obtain ⟨b, off, rfl, hbl, c0, c1⟩ := RowG.at (HR.out.below HA.out.2.2) rfl hx
      have HX : Hid (xs[k]? = some x) := hx
      clear hx
      go_wp2_with fail
      refine (toWaiter_any x wr).mono ?_
      rintro e w2 ⟨rfl, b2⟩
      have hg := (Array.getElem?_eq_some_iff.1 HA.out.1).1
      have HA2 : Hid (w2.heap[w.heap.size]? = some (.cells A 101 (0, 0)) ∧ Cop_toWaiterS xs k A ∧ Below w.heap.size w w2) := ⟨(b2.block _ hg).trans HA.out.1, HA.out.2.1, HA.out.2.2.trans (b2.mono HA.out.2.2.size)⟩
      clear b2 c0 c1 HA
      have hsz : k * 2 + 1 < A.size := by rw [HA2.out.2.1.1]; omega
      obtain ⟨d0, f0⟩ := blk_cell HA2.out.1 (k * 2) (x := A[k * 2]) (Array.getElem?_eq_getElem (by omega))
      obtain ⟨d1, f1⟩ := blk_cell HA2.out.1 (k * 2 + 1) (x := A[k * 2 + 1]) (Array.getElem?_eq_getElem (by omega))
      unfold wtV
      go_wp2_with fail
      refine ⟨⟨k + 1, ((A).setIfInBounds (k * 2) (.int .i64 x.c)).setIfInBounds (k * 2 + 1) (.int .i64 x.l), by omega, by go_num, ⟨(blk_set (blk_set HA2.out.1 _ _) _ _), cop_toWaiterS HA2.out.2.1 HX.out, ?_⟩⟩, by simp [intOf]; omega⟩
      exact (Below.setCell (Below.setCell HA2.out.2.2 (p := ⟨w.heap.size, k * 2, none⟩) (Nat.le_refl _) (.int .i64 x.c)) (p := ⟨w.heap.size, k * 2 + 1, none⟩) (Nat.le_refl _) (.int .i64 x.l))
    · obtain rfl : k = xs.length := by omega
      go_wp2_with fail
      go_ret
      refine ⟨w.heap.size, rfl, Nat.le_refl _, (Array.getElem?_eq_some_iff.1 HA.out.1).1, fun i x hi => ?_, HA.out.2.2, ⟨A, _, HA.out.1, Nat.le_of_eq HA.out.2.1.1.symm⟩⟩
      obtain ⟨e0, e1⟩ := HA.out.2.1.2 i x (Tw.lt_at hi) hi
      exact ⟨(Joins.cell_of_block HA.out.1 _).trans e0, (Joins.cell_of_block HA.out.1 _).trans e1⟩
set_option maxRecDepth 100000 in
set_option maxHeartbeats 800000 in
theorem toSeenSW_any (v : Value) (xs : List Sn) (w : World) (h : RowS w v xs) (hl : xs.length ≤ 1048576) :
    Calls Tryz.prog 34 #[v] w fun e w' => ∃ g, e = .returned (.slice (some ⟨g, 0, none⟩) xs.length xs.length) ∧ w.heap.size ≤ g ∧ g < w'.heap.size ∧ (∀ i x, xs[i]? = some x → ES w' g (i * 6) x) ∧ Below w.heap.size w w' ∧ Wr w' g (xs.length * 6) := by
  have HR : Hid (RowS w v xs) := h
  obtain ⟨a, cap, rfl⟩ := RowG.slice h
  clear h
  obtain ⟨i0, hi, hz0, hz1, hz2⟩ := info_parts info_toSeenS
  have hmk := run_make (P := Tryz.prog) w 34 105 i0 (.agg #[.int .i64 0, .int .i64 0, .int .i64 0, .int .i64 0, .int .i64 0, .int .i64 0]) Tryz.underlying34 hi hz0 .i64 .i64 (xs.length : Int) (xs.length : Int) (by omega) (by omega) (by rw [hz2]; omega) (by omega)
  have hA0 : Cop_toSeenS xs 0 (madeCells (Value.agg #[.int .i64 0, .int .i64 0, .int .i64 0, .int .i64 0, .int .i64 0, .int .i64 0]).cells ((xs.length : Int).toNat * i0.size)) := ⟨by rw [hz1]; simp [madeCells, Value.cells], fun j x hj => absurd hj (by omega)⟩
  generalize madeCells (Value.agg #[.int .i64 0, .int .i64 0, .int .i64 0, .int .i64 0, .int .i64 0, .int .i64 0]).cells ((xs.length : Int).toNat * i0.size) = A0 at hmk hA0
  rw [Int.toNat_natCast] at hmk
  go_enter Tryz.func34, Tryz.ntmps34
  go_wp2_with fail
  clear hmk
  go_loopw [4] (fun i wr => ∃ k : Nat, ∃ A : Array Value, k ≤ xs.length ∧ i = .int .i64 k ∧ Hid (wr.heap[w.heap.size]? = some (.cells A 105 (0, 0)) ∧ Cop_toSeenS xs k A ∧ Below w.heap.size w wr)) (fun i _ => xs.length - (intOf i).toNat)
  case atStart => exact ⟨0, A0, by omega, rfl, ⟨heap_alloc_new w _, hA0, bel_new _ _⟩⟩
  case round =>
    clear hA0
    obtain ⟨k, A, hk, rfl, HA⟩ := hrel
    by_cases hlt : k < xs.length
    · obtain ⟨x, hx⟩ := Tw.get_at hlt
      obtain ⟨b, off, rfl, hbl, c0, c1, c2, c3, c4, c5⟩ := RowG.at (HR.out.below HA.out.2.2) rfl hx
      have HX : Hid (xs[k]? = some x) := hx
      clear hx
      go_wp2_with fail
      refine (toSeen_any x wr).mono ?_
      rintro e w2 ⟨rfl, b2⟩
      have hg := (Array.getElem?_eq_some_iff.1 HA.out.1).1
      have HA2 : Hid (w2.heap[w.heap.size]? = some (.cells A 105 (0, 0)) ∧ Cop_toSeenS xs k A ∧ Below w.heap.size w w2) := ⟨(b2.block _ hg).trans HA.out.1, HA.out.2.1, HA.out.2.2.trans (b2.mono HA.out.2.2.size)⟩
      clear b2 c0 c1 c2 c3 c4 c5 HA
      have hsz : k * 6 + 5 < A.size := by rw [HA2.out.2.1.1]; omega
      obtain ⟨d0, f0⟩ := blk_cell HA2.out.1 (k * 6) (x := A[k * 6]) (Array.getElem?_eq_getElem (by omega))
      obtain ⟨d1, f1⟩ := blk_cell HA2.out.1 (k * 6 + 1) (x := A[k * 6 + 1]) (Array.getElem?_eq_getElem (by omega))
      obtain ⟨d2, f2⟩ := blk_cell HA2.out.1 (k * 6 + 2) (x := A[k * 6 + 2]) (Array.getElem?_eq_getElem (by omega))
      obtain ⟨d3, f3⟩ := blk_cell HA2.out.1 (k * 6 + 3) (x := A[k * 6 + 3]) (Array.getElem?_eq_getElem (by omega))
      obtain ⟨d4, f4⟩ := blk_cell HA2.out.1 (k * 6 + 4) (x := A[k * 6 + 4]) (Array.getElem?_eq_getElem (by omega))
      obtain ⟨d5, f5⟩ := blk_cell HA2.out.1 (k * 6 + 5) (x := A[k * 6 + 5]) (Array.getElem?_eq_getElem (by omega))
      unfold snV
      go_wp2_with fail
      refine ⟨⟨k + 1, ((((((A).setIfInBounds (k * 6) (.int .i64 x.c)).setIfInBounds (k * 6 + 1) (.int .i64 x.s)).setIfInBounds (k * 6 + 2) (.int .i64 x.k)).setIfInBounds (k * 6 + 3) (.int .i64 x.t)).setIfInBounds (k * 6 + 4) (.int .i64 x.h)).setIfInBounds (k * 6 + 5) (.int .i64 x.e), by omega, by go_num, ⟨(blk_set (blk_set (blk_set (blk_set (blk_set (blk_set HA2.out.1 _ _) _ _) _ _) _ _) _ _) _ _), cop_toSeenS HA2.out.2.1 HX.out, ?_⟩⟩, by simp [intOf]; omega⟩
      exact (Below.setCell (Below.setCell (Below.setCell (Below.setCell (Below.setCell (Below.setCell HA2.out.2.2 (p := ⟨w.heap.size, k * 6, none⟩) (Nat.le_refl _) (.int .i64 x.c)) (p := ⟨w.heap.size, k * 6 + 1, none⟩) (Nat.le_refl _) (.int .i64 x.s)) (p := ⟨w.heap.size, k * 6 + 2, none⟩) (Nat.le_refl _) (.int .i64 x.k)) (p := ⟨w.heap.size, k * 6 + 3, none⟩) (Nat.le_refl _) (.int .i64 x.t)) (p := ⟨w.heap.size, k * 6 + 4, none⟩) (Nat.le_refl _) (.int .i64 x.h)) (p := ⟨w.heap.size, k * 6 + 5, none⟩) (Nat.le_refl _) (.int .i64 x.e))
    · obtain rfl : k = xs.length := by omega
      go_wp2_with fail
      go_ret
      refine ⟨w.heap.size, rfl, Nat.le_refl _, (Array.getElem?_eq_some_iff.1 HA.out.1).1, fun i x hi => ?_, HA.out.2.2, ⟨A, _, HA.out.1, Nat.le_of_eq HA.out.2.1.1.symm⟩⟩
      obtain ⟨e0, e1, e2, e3, e4, e5⟩ := HA.out.2.1.2 i x (Tw.lt_at hi) hi
      exact ⟨(Joins.cell_of_block HA.out.1 _).trans e0, (Joins.cell_of_block HA.out.1 _).trans e1, (Joins.cell_of_block HA.out.1 _).trans e2, (Joins.cell_of_block HA.out.1 _).trans e3, (Joins.cell_of_block HA.out.1 _).trans e4, (Joins.cell_of_block HA.out.1 _).trans e5⟩
set_option maxRecDepth 100000 in
set_option maxHeartbeats 800000 in
theorem toLockW_any (x : Lk) (u : Value) (w : World) (h : RowW w u x.ws) (hl : x.ws.length ≤ 1048576) :
    Calls Tryz.prog 63 #[lkV x u] w fun e w' => ∃ g, e = .returned (lkV x (.slice (some ⟨g, 0, none⟩) x.ws.length x.ws.length)) ∧ w.heap.size ≤ g ∧ g < w'.heap.size ∧ (∀ i y, x.ws[i]? = some y → EW w' g (i * 2) y) ∧ Below w.heap.size w w' ∧ Wr w' g (x.ws.length * 2) := by
  have HU : Hid (RowW w u x.ws) := h
  clear h
  unfold lkV
  have HB : Hid (∀ o0 o1 o2, Below w.heap.size w (((w.alloc o0).alloc o1).alloc o2)) := fun o0 o1 o2 => (three (Below.refl _ _)).2.2.2.2
  have HS : Hid (∀ o0 o1 o2, (((w.alloc o0).alloc o1).alloc o2).heap.size = w.heap.size + 1 + 1 + 1) := fun o0 o1 o2 => by rw [size_new, size_new, size_new]
  go_enter Tryz.func63, Tryz.ntmps63
  go_wp2_with fail
  refine (toWaiterSW_any u x.ws _ (HU.out.below (HB.out _ _ _)) hl).mono ?_
  rintro e w1 ⟨g, rfl, hg0, hg1, hr, b1, hwr⟩
  obtain ⟨k0, k1, k2, kS, kB⟩ := three b1
  rw [HS.out] at hg0
  have K0 : Hid (w1.heap[w.heap.size]? = some (.cells #[.string x.n, .int .i64 x.t, .int .i64 x.h, .int .i64 x.e, u] 95)) := k0
  have K1 : Hid (w1.heap[w.heap.size + 1]? = some (.cells #[.string ⟨#[]⟩, .int .i64 0, .int .i64 0, .int .i64 0, .slice none 0 0] 98 (0, 0))) := k1
  have K2 : Hid (w1.heap[w.heap.size + 1 + 1]? = some (.cells #[.string x.n, .int .i64 x.t, .int .i64 x.h, .int .i64 x.e, .slice none 0 0] 98 (0, 0))) := k2
  have KB : Hid (Below w.heap.size w w1) := kB
  have KR : Hid (g < w1.heap.size ∧ ∀ i y, x.ws[i]? = some y → EW w1 g (i * 2) y) := ⟨hg1, hr⟩
  clear b1 k0 k1 k2 kB kS hr hg1 HB HS
  obtain ⟨s0, t0⟩ := blk_cell K2.out 4 (x := .slice none 0 0) rfl
  have B2 : Hid ((w1.setCell ⟨w.heap.size + 1 + 1, 4, none⟩ (.slice (some ⟨g, 0, none⟩) x.ws.length x.ws.length)).heap[w.heap.size + 1 + 1]? = some (.cells #[.string x.n, .int .i64 x.t, .int .i64 x.h, .int .i64 x.e, .slice (some ⟨g, 0, none⟩) x.ws.length x.ws.length] 98 (0, 0))) := (blk_set K2.out 4 (.slice (some ⟨g, 0, none⟩) x.ws.length x.ws.length))
  have A2 : Hid ((w1.setCell ⟨w.heap.size + 1 + 1, 4, none⟩ (.slice (some ⟨g, 0, none⟩) x.ws.length x.ws.length)).heap[w.heap.size + 1]? = some (.cells #[.string ⟨#[]⟩, .int .i64 0, .int .i64 0, .int .i64 0, .slice none 0 0] 98 (0, 0))) := ((blk_far (by omega) 4 (.slice (some ⟨g, 0, none⟩) x.ws.length x.ws.length)).trans K1.out)
  have G2 : Hid (Below w.heap.size w (w1.setCell ⟨w.heap.size + 1 + 1, 4, none⟩ (.slice (some ⟨g, 0, none⟩) x.ws.length x.ws.length))) := (Below.setCell KB.out (p := ⟨w.heap.size + 1 + 1, 4, none⟩) (by show _ ≤ w.heap.size + 1 + 1; omega) (.slice (some ⟨g, 0, none⟩) x.ws.length x.ws.length))
  have R2 : Hid (g < (w1.setCell ⟨w.heap.size + 1 + 1, 4, none⟩ (.slice (some ⟨g, 0, none⟩) x.ws.length x.ws.length)).heap.size ∧ ∀ i y, x.ws[i]? = some y → EW (w1.setCell ⟨w.heap.size + 1 + 1, 4, none⟩ (.slice (some ⟨g, 0, none⟩) x.ws.length x.ws.length)) g (i * 2) y) := ⟨by simpa using KR.out.1, fun i y hy => ew_set (by omega) (KR.out.2 i y hy)⟩
  have W2 : Hid (Wr (w1.setCell ⟨w.heap.size + 1 + 1, 4, none⟩ (.slice (some ⟨g, 0, none⟩) x.ws.length x.ws.length)) g (x.ws.length * 2)) := hwr.set _ _ _
  clear K0 K1 K2 KR hwr
  go_upto_region 7 with fail
  generalize (w1.setCell ⟨w.heap.size + 1 + 1, 4, none⟩ (.slice (some ⟨g, 0, none⟩) x.ws.length x.ws.length)) = w9 at B2 A2 G2 R2 W2 ⊢
  have p0 := (blk_cell B2.out 0 (x := .string x.n) rfl).1
  have p1 := (blk_cell B2.out 1 (x := .int .i64 x.t) rfl).1
  have p2 := (blk_cell B2.out 2 (x := .int .i64 x.h) rfl).1
  have p3 := (blk_cell B2.out 3 (x := .int .i64 x.e) rfl).1
  have p4 := (blk_cell B2.out 4 (x := .slice (some ⟨g, 0, none⟩) x.ws.length x.ws.length) rfl).1
  obtain ⟨m0, n0⟩ := blk_cell A2.out 0 (x := .string ⟨#[]⟩) rfl
  obtain ⟨m1, n1⟩ := blk_cell A2.out 1 (x := .int .i64 0) rfl
  obtain ⟨m2, n2⟩ := blk_cell A2.out 2 (x := .int .i64 0) rfl
  obtain ⟨m3, n3⟩ := blk_cell A2.out 3 (x := .int .i64 0) rfl
  obtain ⟨m4, n4⟩ := blk_cell A2.out 4 (x := .slice none 0 0) rfl
  have AF : (((((w9.setCell ⟨w.heap.size + 1, 0, none⟩ (.string x.n)).setCell ⟨w.heap.size + 1, 1, none⟩ (.int .i64 x.t)).setCell ⟨w.heap.size + 1, 2, none⟩ (.int .i64 x.h)).setCell ⟨w.heap.size + 1, 3, none⟩ (.int .i64 x.e)).setCell ⟨w.heap.size + 1, 4, none⟩ (.slice (some ⟨g, 0, none⟩) x.ws.length x.ws.length)).heap[w.heap.size + 1]? = some (.cells #[.string x.n, .int .i64 x.t, .int .i64 x.h, .int .i64 x.e, .slice (some ⟨g, 0, none⟩) x.ws.length x.ws.length] 98 (0, 0)) := (blk_set (blk_set (blk_set (blk_set (blk_set A2.out 0 (.string x.n)) 1 (.int .i64 x.t)) 2 (.int .i64 x.h)) 3 (.int .i64 x.e)) 4 (.slice (some ⟨g, 0, none⟩) x.ws.length x.ws.length))
  have RF : g < (((((w9.setCell ⟨w.heap.size + 1, 0, none⟩ (.string x.n)).setCell ⟨w.heap.size + 1, 1, none⟩ (.int .i64 x.t)).setCell ⟨w.heap.size + 1, 2, none⟩ (.int .i64 x.h)).setCell ⟨w.heap.size + 1, 3, none⟩ (.int .i64 x.e)).setCell ⟨w.heap.size + 1, 4, none⟩ (.slice (some ⟨g, 0, none⟩) x.ws.length x.ws.length)).heap.size ∧ ∀ i y, x.ws[i]? = some y → EW (((((w9.setCell ⟨w.heap.size + 1, 0, none⟩ (.string x.n)).setCell ⟨w.heap.size + 1, 1, none⟩ (.int .i64 x.t)).setCell ⟨w.heap.size + 1, 2, none⟩ (.int .i64 x.h)).setCell ⟨w.heap.size + 1, 3, none⟩ (.int .i64 x.e)).setCell ⟨w.heap.size + 1, 4, none⟩ (.slice (some ⟨g, 0, none⟩) x.ws.length x.ws.length)) g (i * 2) y := ⟨by simpa using R2.out.1, fun i y hy => by have h := R2.out.2 i y hy; exact ew_set (by omega) (ew_set (by omega) (ew_set (by omega) (ew_set (by omega) (ew_set (by omega) (h)))))⟩
  have GF : Below w.heap.size w (((((w9.setCell ⟨w.heap.size + 1, 0, none⟩ (.string x.n)).setCell ⟨w.heap.size + 1, 1, none⟩ (.int .i64 x.t)).setCell ⟨w.heap.size + 1, 2, none⟩ (.int .i64 x.h)).setCell ⟨w.heap.size + 1, 3, none⟩ (.int .i64 x.e)).setCell ⟨w.heap.size + 1, 4, none⟩ (.slice (some ⟨g, 0, none⟩) x.ws.length x.ws.length)) := (Below.setCell (Below.setCell (Below.setCell (Below.setCell (Below.setCell G2.out (p := ⟨w.heap.size + 1, 0, none⟩) (by show _ ≤ w.heap.size + 1; omega) (.string x.n)) (p := ⟨w.heap.size + 1, 1, none⟩) (by show _ ≤ w.heap.size + 1; omega) (.int .i64 x.t)) (p := ⟨w.heap.size + 1, 2, none⟩) (by show _ ≤ w.heap.size + 1; omega) (.int .i64 x.h)) (p := ⟨w.heap.size + 1, 3, none⟩) (by show _ ≤ w.heap.size + 1; omega) (.int .i64 x.e)) (p := ⟨w.heap.size + 1, 4, none⟩) (by show _ ≤ w.heap.size + 1; omega) (.slice (some ⟨g, 0, none⟩) x.ws.length x.ws.length))
  have RFH : Hid (g < (((((w9.setCell ⟨w.heap.size + 1, 0, none⟩ (.string x.n)).setCell ⟨w.heap.size + 1, 1, none⟩ (.int .i64 x.t)).setCell ⟨w.heap.size + 1, 2, none⟩ (.int .i64 x.h)).setCell ⟨w.heap.size + 1, 3, none⟩ (.int .i64 x.e)).setCell ⟨w.heap.size + 1, 4, none⟩ (.slice (some ⟨g, 0, none⟩) x.ws.length x.ws.length)).heap.size ∧ ∀ i y, x.ws[i]? = some y → EW (((((w9.setCell ⟨w.heap.size + 1, 0, none⟩ (.string x.n)).setCell ⟨w.heap.size + 1, 1, none⟩ (.int .i64 x.t)).setCell ⟨w.heap.size + 1, 2, none⟩ (.int .i64 x.h)).setCell ⟨w.heap.size + 1, 3, none⟩ (.int .i64 x.e)).setCell ⟨w.heap.size + 1, 4, none⟩ (.slice (some ⟨g, 0, none⟩) x.ws.length x.ws.length)) g (i * 2) y) := RF
  have WF : Hid (Wr (((((w9.setCell ⟨w.heap.size + 1, 0, none⟩ (.string x.n)).setCell ⟨w.heap.size + 1, 1, none⟩ (.int .i64 x.t)).setCell ⟨w.heap.size + 1, 2, none⟩ (.int .i64 x.h)).setCell ⟨w.heap.size + 1, 3, none⟩ (.int .i64 x.e)).setCell ⟨w.heap.size + 1, 4, none⟩ (.slice (some ⟨g, 0, none⟩) x.ws.length x.ws.length)) g (x.ws.length * 2)) := ((((W2.out.set _ _ _).set _ _ _).set _ _ _).set _ _ _).set _ _ _
  clear RF W2
  go_wp2_with fail
  generalize (((((w9.setCell ⟨w.heap.size + 1, 0, none⟩ (.string x.n)).setCell ⟨w.heap.size + 1, 1, none⟩ (.int .i64 x.t)).setCell ⟨w.heap.size + 1, 2, none⟩ (.int .i64 x.h)).setCell ⟨w.heap.size + 1, 3, none⟩ (.int .i64 x.e)).setCell ⟨w.heap.size + 1, 4, none⟩ (.slice (some ⟨g, 0, none⟩) x.ws.length x.ws.length)) = wf at AF GF RFH WF ⊢
  have d0 := (blk_cell AF 0 (x := .string x.n) rfl).1
  have d1 := (blk_cell AF 1 (x := .int .i64 x.t) rfl).1
  have d2 := (blk_cell AF 2 (x := .int .i64 x.h) rfl).1
  have d3 := (blk_cell AF 3 (x := .int .i64 x.e) rfl).1
  have d4 := (blk_cell AF 4 (x := .slice (some ⟨g, 0, none⟩) x.ws.length x.ws.length) rfl).1
  exact bodyPost_ret (v := lkV x (.slice (some ⟨g, 0, none⟩) x.ws.length x.ws.length)) (by simp [lkV, results, Tryz.results63, go_sem, d0, d1, d2, d3, d4]) rfl ⟨g, rfl, by omega, RFH.out.1, RFH.out.2, GF, WF.out⟩
/-- The copy of locks, and each with those that wait in memory that may be written. -/
def CopW (w : World) (g : Nat) (xs : List Lk) (k : Nat) (A : Array Value) : Prop := CopL w g xs k A ∧ ∀ j x h, j < k → xs[j]? = some x → A[j * 5 + 4]? = some (.slice (some ⟨h, 0, none⟩) x.ws.length x.ws.length) → Wr w h (x.ws.length * 2)
theorem CopW.below {w w' : World} {g : Nat} {xs : List Lk} {k : Nat} {A : Array Value} (h : CopW w g xs k A) (hb : Below w.heap.size w w') : CopW w' g xs k A := ⟨h.1.below hb, fun j x q hj hx hA => (h.2 j x q hj hx hA).below hb⟩
theorem CopW.set {w : World} {g i : Nat} {v : Value} {xs : List Lk} {k : Nat} {A : Array Value} (h : CopW w g xs k A) : CopW (w.setCell ⟨g, i, none⟩ v) g xs k A := ⟨h.1.set, fun j x q hj hx hA => (h.2 j x q hj hx hA).set _ _ _⟩
theorem copW_toLockS {w : World} {g : Nat} {xs : List Lk} {k : Nat} {A : Array Value} {x : Lk} {q : Nat} (h : CopW w g xs k A) (hx : xs[k]? = some x) (hg : g < q) (hq : q < w.heap.size) (hr : ∀ i y, x.ws[i]? = some y → EW w q (i * 2) y) (hw : Wr w q (x.ws.length * 2)) :
    CopW w g xs (k + 1) (((((A.setIfInBounds (k * 5) (.string x.n)).setIfInBounds (k * 5 + 1) (.int .i64 x.t)).setIfInBounds (k * 5 + 2) (.int .i64 x.h)).setIfInBounds (k * 5 + 3) (.int .i64 x.e)).setIfInBounds (k * 5 + 4) (.slice (some ⟨q, 0, none⟩) x.ws.length x.ws.length)) := by
  have hk := Tw.lt_at hx
  have hs := h.1.1
  refine ⟨cop_toLockS h.1 hx hg hq hr, fun j y p hj hy hA => ?_⟩
  simp only [Array.getElem?_setIfInBounds, Array.size_setIfInBounds] at hA
  by_cases e : j = k
  · subst e
    rw [hx] at hy
    cases hy
    rw [if_pos rfl, if_pos (by omega)] at hA
    simp only [Option.some.injEq, Value.slice.injEq, Addr.mk.injEq, and_true] at hA
    rw [← hA]
    exact hw
  · refine h.2 j y p (by omega) hy ?_
    rw [if_neg (by omega), if_neg (by omega), if_neg (by omega), if_neg (by omega), if_neg (by omega)] at hA
    exact hA
set_option maxRecDepth 100000 in
set_option maxHeartbeats 800000 in
theorem toLockSW_any (v : Value) (xs : List Lk) (w : World) (h : RowL w v xs) (hl : xs.length ≤ 1048576) (hw : ∀ x ∈ xs, x.ws.length ≤ 1048576) :
    Calls Tryz.prog 33 #[v] w fun e w' => ∃ g, e = .returned (.slice (some ⟨g, 0, none⟩) xs.length xs.length) ∧ w.heap.size ≤ g ∧ g < w'.heap.size ∧ RowLA w.heap.size w' (.slice (some ⟨g, 0, none⟩) xs.length xs.length) xs ∧ WrL w.heap.size w'.heap.size w' g (xs.map fun x => x.ws.length) ∧ Below w.heap.size w w' := by
  have HR : Hid (RowL w v xs ∧ ∀ x ∈ xs, x.ws.length ≤ 1048576) := ⟨h, hw⟩
  obtain ⟨a, cap, rfl⟩ := RowG.slice h
  clear h hw
  obtain ⟨i0, hi, hz0, hz1, hz2⟩ := info_parts info_toLockS
  have hmk := run_make (P := Tryz.prog) w 33 98 i0 (.agg #[.string ⟨#[]⟩, .int .i64 0, .int .i64 0, .int .i64 0, .slice none 0 0]) Tryz.underlying33 hi hz0 .i64 .i64 (xs.length : Int) (xs.length : Int) (by omega) (by omega) (by rw [hz2]; omega) (by omega)
  have hA0 : CopW (w.alloc (.cells (madeCells (Value.agg #[.string ⟨#[]⟩, .int .i64 0, .int .i64 0, .int .i64 0, .slice none 0 0]).cells ((xs.length : Int).toNat * i0.size)) 98)) w.heap.size xs 0 (madeCells (Value.agg #[.string ⟨#[]⟩, .int .i64 0, .int .i64 0, .int .i64 0, .slice none 0 0]).cells ((xs.length : Int).toNat * i0.size)) := ⟨⟨by rw [hz1]; simp [madeCells, Value.cells], fun j x hj => absurd hj (by omega)⟩, fun j x h hj => absurd hj (by omega)⟩
  generalize madeCells (Value.agg #[.string ⟨#[]⟩, .int .i64 0, .int .i64 0, .int .i64 0, .slice none 0 0]).cells ((xs.length : Int).toNat * i0.size) = A0 at hmk hA0
  rw [Int.toNat_natCast] at hmk
  have HA0 : Hid (CopW (w.alloc (.cells A0 98)) w.heap.size xs 0 A0) := hA0
  clear hA0
  go_enter Tryz.func33, Tryz.ntmps33
  go_wp2_with fail
  clear hmk
  go_loopw [4] (fun i wr => ∃ k : Nat, ∃ A : Array Value, k ≤ xs.length ∧ i = .int .i64 k ∧ Hid (wr.heap[w.heap.size]? = some (.cells A 98 (0, 0)) ∧ CopW wr w.heap.size xs k A ∧ Below w.heap.size w wr)) (fun i _ => xs.length - (intOf i).toNat)
  case atStart => exact ⟨0, A0, by omega, rfl, ⟨heap_alloc_new w _, HA0.out, bel_new _ _⟩⟩
  case round =>
    clear HA0
    obtain ⟨k, A, hk, rfl, HA⟩ := hrel
    by_cases hlt : k < xs.length
    · obtain ⟨x, hx⟩ := Tw.get_at hlt
      obtain ⟨b, off, rfl, hbl, u, c0, c1, c2, c3, c4, c5⟩ := RowG.at (HR.out.1.below HA.out.2.2) rfl hx
      have HX : Hid (xs[k]? = some x ∧ RowW wr u x.ws) := ⟨hx, c5⟩
      clear hx c5
      go_wp2_with fail
      refine (toLockW_any x u wr HX.out.2 (HR.out.2 _ (Tw.mem_at HX.out.1))).mono ?_
      rintro e w2 ⟨q, rfl, hq0, hq1, hqr, b2, hqw⟩
      have hg := (Array.getElem?_eq_some_iff.1 HA.out.1).1
      have HA2 : Hid (w2.heap[w.heap.size]? = some (.cells A 98 (0, 0)) ∧ CopW w2 w.heap.size xs k A ∧ Below w.heap.size w w2) := ⟨(b2.block _ hg).trans HA.out.1, HA.out.2.1.below b2, HA.out.2.2.trans (b2.mono HA.out.2.2.size)⟩
      have HQ : Hid (w.heap.size < q ∧ q < w2.heap.size ∧ (∀ i y, x.ws[i]? = some y → EW w2 q (i * 2) y) ∧ Wr w2 q (x.ws.length * 2)) := ⟨by omega, hq1, hqr, hqw⟩
      clear b2 c0 c1 c2 c3 c4 HA hq0 hq1 hqr hqw
      have hsz : k * 5 + 4 < A.size := by rw [HA2.out.2.1.1.1]; omega
      obtain ⟨d0, f0⟩ := blk_cell HA2.out.1 (k * 5) (x := A[k * 5]) (Array.getElem?_eq_getElem (by omega))
      obtain ⟨d1, f1⟩ := blk_cell HA2.out.1 (k * 5 + 1) (x := A[k * 5 + 1]) (Array.getElem?_eq_getElem (by omega))
      obtain ⟨d2, f2⟩ := blk_cell HA2.out.1 (k * 5 + 2) (x := A[k * 5 + 2]) (Array.getElem?_eq_getElem (by omega))
      obtain ⟨d3, f3⟩ := blk_cell HA2.out.1 (k * 5 + 3) (x := A[k * 5 + 3]) (Array.getElem?_eq_getElem (by omega))
      obtain ⟨d4, f4⟩ := blk_cell HA2.out.1 (k * 5 + 4) (x := A[k * 5 + 4]) (Array.getElem?_eq_getElem (by omega))
      unfold lkV
      go_wp2_with fail
      refine ⟨⟨k + 1, (((((A).setIfInBounds (k * 5) (.string x.n)).setIfInBounds (k * 5 + 1) (.int .i64 x.t)).setIfInBounds (k * 5 + 2) (.int .i64 x.h)).setIfInBounds (k * 5 + 3) (.int .i64 x.e)).setIfInBounds (k * 5 + 4) (.slice (some ⟨q, 0, none⟩) x.ws.length x.ws.length), by omega, by go_num, ⟨(blk_set (blk_set (blk_set (blk_set (blk_set HA2.out.1 _ _) _ _) _ _) _ _) _ _), ?_, (Below.setCell (Below.setCell (Below.setCell (Below.setCell (Below.setCell HA2.out.2.2 (p := ⟨w.heap.size, k * 5, none⟩) (Nat.le_refl _) (.string x.n)) (p := ⟨w.heap.size, k * 5 + 1, none⟩) (Nat.le_refl _) (.int .i64 x.t)) (p := ⟨w.heap.size, k * 5 + 2, none⟩) (Nat.le_refl _) (.int .i64 x.h)) (p := ⟨w.heap.size, k * 5 + 3, none⟩) (Nat.le_refl _) (.int .i64 x.e)) (p := ⟨w.heap.size, k * 5 + 4, none⟩) (Nat.le_refl _) (.slice (some ⟨q, 0, none⟩) x.ws.length x.ws.length))⟩⟩, by simp [intOf]; omega⟩
      exact (copW_toLockS HA2.out.2.1 HX.out.1 HQ.out.1 HQ.out.2.1 HQ.out.2.2.1 HQ.out.2.2.2).set.set.set.set.set
    · obtain rfl : k = xs.length := by omega
      go_wp2_with fail
      go_ret
      refine ⟨w.heap.size, rfl, Nat.le_refl _, (Array.getElem?_eq_some_iff.1 HA.out.1).1, ⟨some ⟨w.heap.size, 0, none⟩, xs.length, rfl, .inr ⟨w.heap.size, 0, rfl, Nat.le_refl _, (Array.getElem?_eq_some_iff.1 HA.out.1).1, fun i x hi => ?_⟩⟩, ⟨⟨A, _, HA.out.1, by rw [List.length_map, HA.out.2.1.1.1]; exact Nat.le_refl _⟩, fun j m hj => ?_⟩, HA.out.2.2⟩
      rotate_left
      · rw [List.getElem?_map, Option.map_eq_some_iff] at hj
        obtain ⟨x, hx, rfl⟩ := hj
        obtain ⟨q, e0, e1, e2, e3, e4, e5, e6, e7⟩ := HA.out.2.1.1.2 j x (Tw.lt_at hx) hx
        exact ⟨q, (Joins.cell_of_block HA.out.1 _).trans e4, by omega, e6, by omega, HA.out.2.1.2 j x q (Tw.lt_at hx) hx e4⟩
      obtain ⟨q, e0, e1, e2, e3, e4, e5, e6, e7⟩ := HA.out.2.1.1.2 i x (Tw.lt_at hi) hi
      rw [Nat.zero_add]
      exact ⟨Nat.le_refl _, _, (Joins.cell_of_block HA.out.1 _).trans e0, (Joins.cell_of_block HA.out.1 _).trans e1, (Joins.cell_of_block HA.out.1 _).trans e2, (Joins.cell_of_block HA.out.1 _).trans e3, (Joins.cell_of_block HA.out.1 _).trans e4, some ⟨q, 0, none⟩, _, rfl, .inr ⟨q, 0, rfl, Nat.le_refl _, e6, fun i y hy => by rw [Nat.zero_add]; exact ⟨by omega, e7 i y hy⟩⟩⟩
end Go.Proofs.YtnebohdlndiejaaGreatDoor.Mw

/- The laws' copies of tables, in new memory that may be written: the table. -/
namespace Go.Proofs.YtnebohdlndiejaaGreatDoor.Mw
open Go.RowKit Go.Proofs.YtnebohdlndiejaaGreatDoor.Sl Go.Proofs.YtnebohdlndiejaaGreatDoor.By Go.Proofs.YtnebohdlndiejaaGreatDoor.Ap Go.Proofs.YtnebohdlndiejaaGreatDoor.Tx Go.Proofs.YtnebohdlndiejaaGreatDoor.Tb Go.Proofs.YtnebohdlndiejaaGreatDoor.Tw

theorem WrL.far {B C : Nat} {w : World} {g p : Nat} {ns : List Nat} (h : WrL B C w g ns) (hp : p ≠ g) (j : Nat) (x : Value) : WrL B C (w.setCell ⟨p, j, none⟩ x) g ns := h.kept hp (fun _ _ h => h.set _ _ _) (fun _ _ hk => blk_far hk j x)
theorem WrL.mono {B C B' C' : Nat} {w : World} {g : Nat} {ns : List Nat} (h : WrL B C w g ns) (hB : B' ≤ B) (hC : C ≤ C') : WrL B' C' w g ns := ⟨h.1, fun j m hj => by
  obtain ⟨q, h1, h2, h3, h4, h5⟩ := h.2 j m hj
  exact ⟨q, h1, Nat.le_trans hB h2, Nat.lt_of_lt_of_le h3 hC, h4, h5⟩⟩
set_option maxRecDepth 100000 in
set_option maxHeartbeats 800000 in
theorem toTableW_any (tm nx : Int) (vl vs : Value) (ls : List Lk) (ss : List Sn) (w : World) (hl : RowL w vl ls) (hs : RowS w vs ss) (h1 : ls.length ≤ 1048576) (h2 : ss.length ≤ 1048576) (h3 : ∀ x ∈ ls, x.ws.length ≤ 1048576) :
    Calls Tryz.prog 7 #[tabV tm nx vl vs] w fun e w' => ∃ gl gs, e = .returned (tabV tm nx (.slice (some ⟨gl, 0, none⟩) ls.length ls.length) (.slice (some ⟨gs, 0, none⟩) ss.length ss.length)) ∧ RowL w' (.slice (some ⟨gl, 0, none⟩) ls.length ls.length) ls ∧ RowS w' (.slice (some ⟨gs, 0, none⟩) ss.length ss.length) ss ∧ TabW w.heap.size w'.heap.size w' gl gs ls ss ∧ Below w.heap.size w w' := by
  have HL : Hid (RowL w vl ls ∧ ∀ x ∈ ls, x.ws.length ≤ 1048576) := ⟨hl, h3⟩
  have HSS : Hid (RowS w vs ss) := hs
  clear hl hs h3
  unfold tabV
  have HB : Hid (∀ o0 o1 o2, Below w.heap.size w (((w.alloc o0).alloc o1).alloc o2)) := fun o0 o1 o2 => (three (Below.refl _ _)).2.2.2.2
  have HS : Hid (∀ o0 o1 o2, (((w.alloc o0).alloc o1).alloc o2).heap.size = w.heap.size + 1 + 1 + 1) := fun o0 o1 o2 => by rw [size_new, size_new, size_new]
  go_enter Tryz.func7, Tryz.ntmps7
  go_wp2_with fail
  refine (toLockSW_any vl ls _ (HL.out.1.below (HB.out _ _ _)) h1 HL.out.2).mono ?_
  rintro e w1 ⟨gl, rfl, hgl, hgl2, hr, hwl, b1⟩
  obtain ⟨k0, k1, k2, kS, kB⟩ := three b1
  rw [HS.out] at hr hgl hwl
  obtain ⟨s0, t0⟩ := blk_cell k2 2 (x := .slice none 0 0) rfl
  have c3 : (w1.setCell ⟨w.heap.size + 1 + 1, 2, none⟩ (.slice (some ⟨gl, 0, none⟩) ls.length ls.length)).cell? ⟨w.heap.size, 3, none⟩ = some vs := by
    have h := (blk_far (k := w.heap.size) (b := w.heap.size + 1 + 1) (by omega) 2 (.slice (some ⟨gl, 0, none⟩) ls.length ls.length)).trans k0
    exact (blk_cell h 3 (x := vs) rfl).1
  have K1 : Hid ((w1.setCell ⟨w.heap.size + 1 + 1, 2, none⟩ (.slice (some ⟨gl, 0, none⟩) ls.length ls.length)).heap[w.heap.size + 1]? = some (.cells #[.int .i64 0, .int .i64 0, .slice none 0 0, .slice none 0 0] 36 (0, 0))) := (blk_far (by omega) 2 (.slice (some ⟨gl, 0, none⟩) ls.length ls.length)).trans k1
  have K2 : Hid ((w1.setCell ⟨w.heap.size + 1 + 1, 2, none⟩ (.slice (some ⟨gl, 0, none⟩) ls.length ls.length)).heap[w.heap.size + 1 + 1]? = some (.cells #[.int .i64 tm, .int .i64 nx, (.slice (some ⟨gl, 0, none⟩) ls.length ls.length), .slice none 0 0] 36 (0, 0))) := blk_set k2 2 (.slice (some ⟨gl, 0, none⟩) ls.length ls.length)
  have KB : Hid (Below w.heap.size w (w1.setCell ⟨w.heap.size + 1 + 1, 2, none⟩ (.slice (some ⟨gl, 0, none⟩) ls.length ls.length))) := Below.setCell kB (p := ⟨w.heap.size + 1 + 1, 2, none⟩) (by show _ ≤ w.heap.size + 1 + 1; omega) (.slice (some ⟨gl, 0, none⟩) ls.length ls.length)
  have KR : Hid (RowLA (w.heap.size + 1 + 1 + 1) (w1.setCell ⟨w.heap.size + 1 + 1, 2, none⟩ (.slice (some ⟨gl, 0, none⟩) ls.length ls.length)) (.slice (some ⟨gl, 0, none⟩) ls.length ls.length) ls) := hr.keep ((Abv.refl _ _).set (by omega) _)
  have KZ : Hid (w.heap.size + 1 + 1 + 1 ≤ ((w1.setCell ⟨w.heap.size + 1 + 1, 2, none⟩ (.slice (some ⟨gl, 0, none⟩) ls.length ls.length))).heap.size) := by show _ ≤ _; simpa using kS
  have KW : Hid (WrL w.heap.size w1.heap.size (w1.setCell ⟨w.heap.size + 1 + 1, 2, none⟩ (.slice (some ⟨gl, 0, none⟩) ls.length ls.length)) gl (ls.map fun x => x.ws.length)) := (hwl.far (by omega) _ _).mono (by omega) (Nat.le_refl _)
  have KG : Hid (w.heap.size + 3 ≤ gl ∧ gl < w1.heap.size ∧ w1.heap.size ≤ (w1.setCell ⟨w.heap.size + 1 + 1, 2, none⟩ (.slice (some ⟨gl, 0, none⟩) ls.length ls.length)).heap.size) := ⟨by omega, hgl2, by simp⟩
  clear b1 k0 k1 k2 kB kS hr hgl hgl2 hwl HB HS
  go_upto_region 5 with fail
  generalize (w1.setCell ⟨w.heap.size + 1 + 1, 2, none⟩ (.slice (some ⟨gl, 0, none⟩) ls.length ls.length)) = w2 at c3 K1 K2 KB KR KZ KW KG ⊢
  clear s0 t0
  go_wp2_with fail
  refine (toSeenSW_any vs ss w2 (HSS.out.below KB.out) h2).mono ?_
  rintro e w3 ⟨g, rfl, hg0, hg1, hr, b3, hws⟩
  obtain ⟨us, HUS⟩ : ∃ us, us = Value.slice (some ⟨g, 0, none⟩) ss.length ss.length := ⟨_, rfl⟩
  have KR3 : Hid (RowLA (w.heap.size + 1 + 1 + 1) w3 (.slice (some ⟨gl, 0, none⟩) ls.length ls.length) ls ∧ RowSA (w.heap.size + 1 + 1 + 1) w3 us ss) := ⟨KR.out.keep (Abv.of b3), ⟨some ⟨g, 0, none⟩, ss.length, HUS, .inr ⟨g, 0, rfl, Nat.le_refl _, hg1, fun i x hi => by rw [Nat.zero_add]; exact ⟨by have := KZ.out; omega, hr i x hi⟩⟩⟩⟩
  have K13 : Hid (w3.heap[w.heap.size + 1]? = some (.cells #[.int .i64 0, .int .i64 0, .slice none 0 0, .slice none 0 0] 36 (0, 0))) := (b3.block _ (by have := KZ.out; omega)).trans K1.out
  have K23 : Hid (w3.heap[w.heap.size + 1 + 1]? = some (.cells #[.int .i64 tm, .int .i64 nx, (.slice (some ⟨gl, 0, none⟩) ls.length ls.length), .slice none 0 0] 36 (0, 0))) := (b3.block _ (by have := KZ.out; omega)).trans K2.out
  have KB3 : Hid (Below w.heap.size w w3) := KB.out.trans (b3.mono KB.out.size)
  have KW3 : Hid (WrL w.heap.size w3.heap.size w3 gl (ls.map fun x => x.ws.length) ∧ Wr w3 g (ss.length * 6) ∧ w.heap.size + 3 ≤ gl ∧ gl < w3.heap.size ∧ w.heap.size + 3 ≤ g ∧ g < w3.heap.size) := ⟨(KW.out.below b3).mono (Nat.le_refl _) (Nat.le_trans KG.out.2.2 b3.size), hws, KG.out.1, by have := KG.out; have := b3.size; omega, by have := KG.out; have := KZ.out; omega, hg1⟩
  clear hr hg0 hg1 b3 K1 K2 KB KR KZ c3 KW KG hws
  have K1 := K13
  have K2 := K23
  have KB := KB3
  have KR := KR3
  clear K13 K23 KB3 KR3
  subst HUS
  obtain ⟨s0, t0⟩ := blk_cell K2.out 3 (x := .slice none 0 0) rfl
  have B2 : Hid ((w3.setCell ⟨w.heap.size + 1 + 1, 3, none⟩ ((.slice (some ⟨g, 0, none⟩) ss.length ss.length))).heap[w.heap.size + 1 + 1]? = some (.cells #[.int .i64 tm, .int .i64 nx, (.slice (some ⟨gl, 0, none⟩) ls.length ls.length), (.slice (some ⟨g, 0, none⟩) ss.length ss.length)] 36 (0, 0))) := (blk_set K2.out 3 ((.slice (some ⟨g, 0, none⟩) ss.length ss.length)))
  have A2 : Hid ((w3.setCell ⟨w.heap.size + 1 + 1, 3, none⟩ ((.slice (some ⟨g, 0, none⟩) ss.length ss.length))).heap[w.heap.size + 1]? = some (.cells #[.int .i64 0, .int .i64 0, .slice none 0 0, .slice none 0 0] 36 (0, 0))) := ((blk_far (by omega) 3 ((.slice (some ⟨g, 0, none⟩) ss.length ss.length))).trans K1.out)
  have G2 : Hid (Below w.heap.size w (w3.setCell ⟨w.heap.size + 1 + 1, 3, none⟩ ((.slice (some ⟨g, 0, none⟩) ss.length ss.length)))) := (Below.setCell KB.out (p := ⟨w.heap.size + 1 + 1, 3, none⟩) (by show _ ≤ w.heap.size + 1 + 1; omega) ((.slice (some ⟨g, 0, none⟩) ss.length ss.length)))
  have R2 : Hid (RowLA (w.heap.size + 1 + 1 + 1) (w3.setCell ⟨w.heap.size + 1 + 1, 3, none⟩ ((.slice (some ⟨g, 0, none⟩) ss.length ss.length))) (.slice (some ⟨gl, 0, none⟩) ls.length ls.length) ls ∧ RowSA (w.heap.size + 1 + 1 + 1) (w3.setCell ⟨w.heap.size + 1 + 1, 3, none⟩ ((.slice (some ⟨g, 0, none⟩) ss.length ss.length))) (.slice (some ⟨g, 0, none⟩) ss.length ss.length) ss) := ⟨KR.out.1.keep ((Abv.refl _ _).set (by omega) _), KR.out.2.keep ((Abv.refl _ _).set (by omega) _)⟩
  have W9 : Hid (WrL w.heap.size w3.heap.size (w3.setCell ⟨w.heap.size + 1 + 1, 3, none⟩ ((.slice (some ⟨g, 0, none⟩) ss.length ss.length))) gl (ls.map fun x => x.ws.length) ∧ Wr (w3.setCell ⟨w.heap.size + 1 + 1, 3, none⟩ ((.slice (some ⟨g, 0, none⟩) ss.length ss.length))) g (ss.length * 6) ∧ (w3.setCell ⟨w.heap.size + 1 + 1, 3, none⟩ ((.slice (some ⟨g, 0, none⟩) ss.length ss.length))).heap.size = w3.heap.size) := ⟨KW3.out.1.far (by have := KW3.out; omega) _ _, KW3.out.2.1.set _ _ _, by simp⟩
  clear K1 K2 KR
  go_upto_region 6 with fail
  generalize (w3.setCell ⟨w.heap.size + 1 + 1, 3, none⟩ ((.slice (some ⟨g, 0, none⟩) ss.length ss.length))) = w9 at B2 A2 G2 R2 W9 ⊢
  have p0 := (blk_cell B2.out 0 (x := .int .i64 tm) rfl).1
  have p1 := (blk_cell B2.out 1 (x := .int .i64 nx) rfl).1
  have p2 := (blk_cell B2.out 2 (x := (.slice (some ⟨gl, 0, none⟩) ls.length ls.length)) rfl).1
  have p3 := (blk_cell B2.out 3 (x := (.slice (some ⟨g, 0, none⟩) ss.length ss.length)) rfl).1
  obtain ⟨m0, n0⟩ := blk_cell A2.out 0 (x := .int .i64 0) rfl
  obtain ⟨m1, n1⟩ := blk_cell A2.out 1 (x := .int .i64 0) rfl
  obtain ⟨m2, n2⟩ := blk_cell A2.out 2 (x := .slice none 0 0) rfl
  obtain ⟨m3, n3⟩ := blk_cell A2.out 3 (x := .slice none 0 0) rfl
  have AF : ((((w9.setCell ⟨w.heap.size + 1, 0, none⟩ (.int .i64 tm)).setCell ⟨w.heap.size + 1, 1, none⟩ (.int .i64 nx)).setCell ⟨w.heap.size + 1, 2, none⟩ ((.slice (some ⟨gl, 0, none⟩) ls.length ls.length))).setCell ⟨w.heap.size + 1, 3, none⟩ ((.slice (some ⟨g, 0, none⟩) ss.length ss.length))).heap[w.heap.size + 1]? = some (.cells #[.int .i64 tm, .int .i64 nx, (.slice (some ⟨gl, 0, none⟩) ls.length ls.length), (.slice (some ⟨g, 0, none⟩) ss.length ss.length)] 36 (0, 0)) := (blk_set (blk_set (blk_set (blk_set A2.out 0 (.int .i64 tm)) 1 (.int .i64 nx)) 2 ((.slice (some ⟨gl, 0, none⟩) ls.length ls.length))) 3 ((.slice (some ⟨g, 0, none⟩) ss.length ss.length)))
  have RF : Hid (RowL ((((w9.setCell ⟨w.heap.size + 1, 0, none⟩ (.int .i64 tm)).setCell ⟨w.heap.size + 1, 1, none⟩ (.int .i64 nx)).setCell ⟨w.heap.size + 1, 2, none⟩ ((.slice (some ⟨gl, 0, none⟩) ls.length ls.length))).setCell ⟨w.heap.size + 1, 3, none⟩ ((.slice (some ⟨g, 0, none⟩) ss.length ss.length))) (.slice (some ⟨gl, 0, none⟩) ls.length ls.length) ls ∧ RowS ((((w9.setCell ⟨w.heap.size + 1, 0, none⟩ (.int .i64 tm)).setCell ⟨w.heap.size + 1, 1, none⟩ (.int .i64 nx)).setCell ⟨w.heap.size + 1, 2, none⟩ ((.slice (some ⟨gl, 0, none⟩) ls.length ls.length))).setCell ⟨w.heap.size + 1, 3, none⟩ ((.slice (some ⟨g, 0, none⟩) ss.length ss.length))) (.slice (some ⟨g, 0, none⟩) ss.length ss.length) ss) := ⟨(R2.out.1.keep (Abv.set (Abv.set (Abv.set (Abv.set (Abv.refl _ _) (by omega) _) (by omega) _) (by omega) _) (by omega) _)).row, (R2.out.2.keep (Abv.set (Abv.set (Abv.set (Abv.set (Abv.refl _ _) (by omega) _) (by omega) _) (by omega) _) (by omega) _)).row⟩
  have WF : Hid (WrL w.heap.size w3.heap.size ((((w9.setCell ⟨w.heap.size + 1, 0, none⟩ (.int .i64 tm)).setCell ⟨w.heap.size + 1, 1, none⟩ (.int .i64 nx)).setCell ⟨w.heap.size + 1, 2, none⟩ ((.slice (some ⟨gl, 0, none⟩) ls.length ls.length))).setCell ⟨w.heap.size + 1, 3, none⟩ ((.slice (some ⟨g, 0, none⟩) ss.length ss.length))) gl (ls.map fun x => x.ws.length) ∧ Wr ((((w9.setCell ⟨w.heap.size + 1, 0, none⟩ (.int .i64 tm)).setCell ⟨w.heap.size + 1, 1, none⟩ (.int .i64 nx)).setCell ⟨w.heap.size + 1, 2, none⟩ ((.slice (some ⟨gl, 0, none⟩) ls.length ls.length))).setCell ⟨w.heap.size + 1, 3, none⟩ ((.slice (some ⟨g, 0, none⟩) ss.length ss.length))) g (ss.length * 6) ∧ ((((w9.setCell ⟨w.heap.size + 1, 0, none⟩ (.int .i64 tm)).setCell ⟨w.heap.size + 1, 1, none⟩ (.int .i64 nx)).setCell ⟨w.heap.size + 1, 2, none⟩ ((.slice (some ⟨gl, 0, none⟩) ls.length ls.length))).setCell ⟨w.heap.size + 1, 3, none⟩ ((.slice (some ⟨g, 0, none⟩) ss.length ss.length))).heap.size = w3.heap.size) := ⟨(((W9.out.1.far (by have := KW3.out; omega) _ _).far (by have := KW3.out; omega) _ _).far (by have := KW3.out; omega) _ _).far (by have := KW3.out; omega) _ _, (((W9.out.2.1.set _ _ _).set _ _ _).set _ _ _).set _ _ _, by simpa using W9.out.2.2⟩
  have GF : Below w.heap.size w ((((w9.setCell ⟨w.heap.size + 1, 0, none⟩ (.int .i64 tm)).setCell ⟨w.heap.size + 1, 1, none⟩ (.int .i64 nx)).setCell ⟨w.heap.size + 1, 2, none⟩ ((.slice (some ⟨gl, 0, none⟩) ls.length ls.length))).setCell ⟨w.heap.size + 1, 3, none⟩ ((.slice (some ⟨g, 0, none⟩) ss.length ss.length))) := (Below.setCell (Below.setCell (Below.setCell (Below.setCell G2.out (p := ⟨w.heap.size + 1, 0, none⟩) (by show _ ≤ w.heap.size + 1; omega) (.int .i64 tm)) (p := ⟨w.heap.size + 1, 1, none⟩) (by show _ ≤ w.heap.size + 1; omega) (.int .i64 nx)) (p := ⟨w.heap.size + 1, 2, none⟩) (by show _ ≤ w.heap.size + 1; omega) ((.slice (some ⟨gl, 0, none⟩) ls.length ls.length))) (p := ⟨w.heap.size + 1, 3, none⟩) (by show _ ≤ w.heap.size + 1; omega) ((.slice (some ⟨g, 0, none⟩) ss.length ss.length)))
  go_wp2_with fail
  generalize ((((w9.setCell ⟨w.heap.size + 1, 0, none⟩ (.int .i64 tm)).setCell ⟨w.heap.size + 1, 1, none⟩ (.int .i64 nx)).setCell ⟨w.heap.size + 1, 2, none⟩ ((.slice (some ⟨gl, 0, none⟩) ls.length ls.length))).setCell ⟨w.heap.size + 1, 3, none⟩ ((.slice (some ⟨g, 0, none⟩) ss.length ss.length))) = wf at AF GF RF WF ⊢
  have d0 := (blk_cell AF 0 (x := .int .i64 tm) rfl).1
  have d1 := (blk_cell AF 1 (x := .int .i64 nx) rfl).1
  have d2 := (blk_cell AF 2 (x := (.slice (some ⟨gl, 0, none⟩) ls.length ls.length)) rfl).1
  have d3 := (blk_cell AF 3 (x := (.slice (some ⟨g, 0, none⟩) ss.length ss.length)) rfl).1
  exact bodyPost_ret (v := tabV tm nx (.slice (some ⟨gl, 0, none⟩) ls.length ls.length) (.slice (some ⟨g, 0, none⟩) ss.length ss.length)) (by simp [tabV, results, Tryz.results7, go_sem, d0, d1, d2, d3]) rfl ⟨gl, g, rfl, RF.out.1, RF.out.2, ⟨by rw [WF.out.2.2]; have := KW3.out; omega, by rw [WF.out.2.2]; exact WF.out.1, WF.out.2.1⟩, GF⟩
end Go.Proofs.YtnebohdlndiejaaGreatDoor.Mw

/- The laws' copies and marks of integers; marks of tables with a bound. -/
namespace Go.Proofs.YtnebohdlndiejaaGreatDoor.Mw
open Go.RowKit Go.Proofs.YtnebohdlndiejaaGreatDoor.Sl Go.Proofs.YtnebohdlndiejaaGreatDoor.By Go.Proofs.YtnebohdlndiejaaGreatDoor.Ap Go.Proofs.YtnebohdlndiejaaGreatDoor.Tx Go.Proofs.YtnebohdlndiejaaGreatDoor.Tb Go.Proofs.YtnebohdlndiejaaGreatDoor.Tw
open Go.Proofs.YtnebohdlndiejaaGreatDoor.Is (RowI Copied info3)

theorem ret_iw {a b : Int} (h : a = b) : Ending.returned (.int .i64 a) = .returned (.int .i64 b) := by rw [h]
set_option maxHeartbeats 400000 in
theorem toIntW_any (v : Value) (xs : List Int) (w : World) (h : RowI w v xs) (hl : xs.length ≤ 1048576) :
    Calls Tryz.prog 8 #[v] w fun e w' => ∃ g, e = .returned (.slice (some ⟨g, 0, none⟩) xs.length xs.length) ∧ w.heap.size ≤ g ∧ Wr w' g xs.length ∧ RowI w' (.slice (some ⟨g, 0, none⟩) xs.length xs.length) xs ∧ Below w.heap.size w w' := by
  obtain ⟨a, cap, rfl, h, hr⟩ := h
  obtain ⟨i0, hi, hz0, hz1, hz2⟩ := info_parts info3
  have hmk := run_make (P := Tryz.prog) w 26 3 i0 (.int .i64 0) Tryz.underlying26 hi hz0 .i64 .i64 (xs.length : Int) (xs.length : Int) (by omega) (by omega) (by rw [hz2]; omega) (by omega)
  have hA0 : Copied xs 0 (madeCells (Value.int .i64 0).cells ((xs.length : Int).toNat * i0.size)) := ⟨by rw [hz1]; simp [madeCells, Value.cells], fun j hj => absurd hj (by omega)⟩
  generalize madeCells (Value.int .i64 0).cells ((xs.length : Int).toNat * i0.size) = A0 at hmk hA0
  rw [Int.toNat_natCast] at hmk
  go_enter Tryz.func8, Tryz.ntmps8
  go_wp2_with fail
  clear hmk
  go_loopw [4] (fun i wr => ∃ k : Nat, ∃ A : Array Value, k ≤ xs.length ∧ i = .int .i64 k ∧ wr = w.alloc (.cells A 3) ∧ Copied xs k A) (fun i _ => xs.length - (intOf i).toNat)
  case atStart => exact ⟨0, A0, by omega, rfl, rfl, hA0⟩
  case round =>
    clear hA0
    obtain ⟨k, A, hk, rfl, rfl, hA⟩ := hrel
    by_cases hlt : k < xs.length
    · rcases h with h | ⟨b, off, rfl, hc, hb, hcell⟩
      · exact absurd hlt (by rw [h]; simp)
      have hc1 := hcell k hlt
      have hne : b ≠ w.heap.size := by omega
      obtain ⟨x, hx⟩ : ∃ x, A[k]? = some x := ⟨_, Array.getElem?_eq_getElem (by rw [hA.1]; exact hlt)⟩
      clear hcell
      have hA' : Copied xs (k + 1) (A.setIfInBounds k (.int .i64 (nth xs k))) := by
        refine ⟨by rw [Array.size_setIfInBounds]; exact hA.1, fun j hj => ?_⟩
        rw [Array.getElem?_setIfInBounds]
        by_cases e : k = j
        · subst e
          rw [if_pos rfl, if_pos (by rw [hA.1]; exact hlt)]
        · rw [if_neg e]
          exact hA.2 j (by omega)
      go_wp2
      go_roundw
      case rel => exact ⟨k + 1, _, by omega, by go_num, rfl, hA'⟩
      case measure => simp [intOf]; omega
    · obtain rfl : k = xs.length := by omega
      go_wp2
      go_ret
      refine ⟨_, rfl, Nat.le_refl _, ⟨A, _, heap_alloc_new w _, Nat.le_of_eq hA.1.symm⟩, ⟨_, _, rfl, .inr ⟨w.heap.size, 0, rfl, Nat.le_refl _, by simp, fun i hi => ?_⟩, hr⟩, (Below.refl _ _).alloc (Nat.le_refl _) _⟩
      rw [Nat.zero_add, World.cell?_alloc_at _ _ _ _ rfl]
      exact hA.2 i hi
set_option maxRecDepth 100000 in
set_option maxHeartbeats 800000 in
theorem markTable_bnd (tm nx : Int) (gl gs : Nat) (ls : List Lk) (ss : List Sn) (B C : Nat) (w : World) (h : TabW B C w gl gs ls ss) (h1 : ls.length ≤ 1048576) (h2 : ss.length ≤ 1048576) (h3 : ∀ x ∈ ls, x.ws.length ≤ 1048576) (hCw : C ≤ w.heap.size) :
    Calls Tryz.prog 13 #[tabV tm nx (.slice (some ⟨gl, 0, none⟩) ls.length ls.length) (.slice (some ⟨gs, 0, none⟩) ss.length ss.length), .int .i64 1] w fun e w' => ∃ r : Nat, e = .returned (.int .i64 (r : Int)) ∧ r ≤ 4000000000000 ∧ Mid B C w w' := by
  obtain ⟨⟨b1, b2, b3, b4⟩, hl, hs⟩ := h
  have HN : Hid ((ls.map fun x => x.ws.length).length = ls.length ∧ ∀ m ∈ ls.map (fun x => x.ws.length), m ≤ 1048576) := ⟨by simp, fun m hm => by obtain ⟨x, hx, rfl⟩ := List.mem_map.1 hm; exact h3 x hx⟩
  have HL : Hid (∀ W, Below w.heap.size w W → Calls Tryz.prog 40 #[.slice (some ⟨gl, 0, none⟩) ls.length ls.length, .int .i64 1] W fun e w' => ∃ r : Nat, e = .returned (.int .i64 (r : Int)) ∧ r ≤ 3000000000000 ∧ Mid B C W w' ∧ Kw W w') := fun W hW => by
    have h := markLockS_any gl (ls.map fun x => x.ws.length) B C W (hl.below hW) b1 b2 (by rw [HN.out.1]; exact h1) HN.out.2
    rw [HN.out.1] at h
    exact h
  have HS : Hid (Wr w gs (ss.length * 6)) := hs
  clear hl hs h3
  unfold tabV
  have HBN : Hid (Below w.heap.size w (w.alloc (.cells #[.int .i64 tm, .int .i64 nx, .slice (some ⟨gl, 0, none⟩) ls.length ls.length, .slice (some ⟨gs, 0, none⟩) ss.length ss.length] 36)) ∧ (w.alloc (.cells #[.int .i64 tm, .int .i64 nx, .slice (some ⟨gl, 0, none⟩) ls.length ls.length, .slice (some ⟨gs, 0, none⟩) ss.length ss.length] 36)).heap[w.heap.size]? = some (.cells #[.int .i64 tm, .int .i64 nx, .slice (some ⟨gl, 0, none⟩) ls.length ls.length, .slice (some ⟨gs, 0, none⟩) ss.length ss.length] 36) ∧ w.heap.size < (w.alloc (.cells #[.int .i64 tm, .int .i64 nx, .slice (some ⟨gl, 0, none⟩) ls.length ls.length, .slice (some ⟨gs, 0, none⟩) ss.length ss.length] 36)).heap.size) := ⟨bel_new _ _, heap_alloc_new w _, by simp⟩
  go_enter Tryz.func13, Tryz.ntmps13
  go_wp2_with fail
  generalize w.alloc (.cells #[.int .i64 tm, .int .i64 nx, .slice (some ⟨gl, 0, none⟩) ls.length ls.length, .slice (some ⟨gs, 0, none⟩) ss.length ss.length] 36) = wb at HBN ⊢
  refine (HL.out _ HBN.out.1).mono ?_
  rintro e w1 ⟨r, rfl, hr, m1, k1⟩
  have x3 := (blk_cell ((m1.block _ HBN.out.2.2 (.inr hCw)).trans HBN.out.2.1) 3 (x := .slice (some ⟨gs, 0, none⟩) ss.length ss.length) rfl).1
  have HM : Hid (Mid B C w w1 ∧ Wr w1 gs (ss.length * 6)) := ⟨(Mid.of_below HBN.out.1).trans m1, k1 _ _ (HS.out.below HBN.out.1)⟩
  clear m1 k1
  go_wp2_with fail
  refine (markSeenS_any gs ss.length r B C w1 HM.out.2 b3 b4 h2 (by omega)).mono ?_
  rintro e w2 ⟨rfl, m2⟩
  have HM2 : Hid (Mid B C w w2) := HM.out.1.trans m2
  clear m2 x3
  go_wp2_with fail
  go_ret
  exact ⟨r + ss.length * 6, rfl, by omega, HM2.out⟩
set_option maxRecDepth 100000 in
set_option maxHeartbeats 800000 in
theorem markIntW_any (g n : Nat) (a : Nat) (w : World) (h : Wr w g n) (hn : n ≤ 1048576) (ha : a ≤ 1000000000000000) :
    Calls Tryz.prog 14 #[.slice (some ⟨g, 0, none⟩) n n, .int .i64 a] w fun e w' => e = .returned (.int .i64 ((a + n : Nat) : Int)) ∧ Mid g (g + 1) w w' := by
  have H : Hid (Wr w g n) := h
  clear h
  go_enter Tryz.func14, Tryz.ntmps14
  go_wp2_with fail
  go_loopw [1, 5] (fun k i wr => ∃ q r : Nat, q ≤ n ∧ k = .int .i64 (r : Int) ∧ r ≤ a + q ∧ i = .int .i64 q ∧ Hid (r = a + q) ∧ Hid (Wr wr g n ∧ Mid g (g + 1) w wr)) (fun _ i _ => n - (intOf i).toNat)
  case atStart => exact ⟨0, a, by omega, rfl, by omega, rfl, (by show _ = _; omega), H.out, Mid.refl _ _ _⟩
  case round =>
    obtain ⟨q, r, hq, rfl, hrb, rfl, HRR, HA⟩ := hrel
    by_cases hlt : q < n
    · obtain ⟨⟨x0, c0⟩, f0⟩ := HA.out.1.cell (j := q) (by omega)
      have HC : Hid (Wr (wr.setCell ⟨g, q, none⟩ (.int .i64 (r : Int))) g n ∧ Mid g (g + 1) w (wr.setCell ⟨g, q, none⟩ (.int .i64 (r : Int)))) := ⟨HA.out.1.set _ _ _, HA.out.2.trans (Mid.set (Nat.le_refl _) (Nat.lt_succ_self _) _ _)⟩
      go_wp2_with fail
      exact ⟨⟨q + 1, r + 1, by omega, by go_num, by omega, by go_num, (by show _ = _; have := HRR.out; omega), HC⟩, by simp [intOf]; omega⟩
    · obtain rfl : q = n := by omega
      go_wp2_with fail
      go_ret
      exact ⟨ret_iw (by have := HRR.out; omega), HA.out.2⟩
/-- What lies below is as it was. -/
theorem Mid.low {N B C : Nat} {w W W' : World} (hb : Below N w W) (hN : N ≤ w.heap.size) (h : Mid B C W W') (hB : N ≤ B) : Below N w W' :=
  ⟨h.os.trans hb.os, h.tape.trans hb.tape, h.output.trans hb.output, Nat.le_trans hb.size h.size, fun k hk => (h.block k (by have := hb.size; omega) (.inl (by omega))).trans (hb.block k hk)⟩
theorem Kp.low {N : Nat} {w W W' : World} {v : Value} (hb : Below N w W) (hN : N ≤ w.heap.size) (h : Kp W W' v v) (hv : ∀ g, v.ownBlock = some g → N ≤ g) : Below N w W' :=
  ⟨h.os.trans hb.os, h.tape.trans hb.tape, h.output.trans hb.output, Nat.le_trans hb.size h.size, fun k hk => (h.block k (by have := hb.size; omega) (fun e => by have := hv k e.symm; omega)).trans (hb.block k hk)⟩
end Go.Proofs.YtnebohdlndiejaaGreatDoor.Mw

/- The package variables that the row lists: the table of round constants, the sentinels. -/
namespace Go.Proofs.YtnebohdlndiejaaGreatDoor.Hl
open Go.ChangeShapes Go.WideShapes Go.ChangeAt Go.RowKit Go.Proofs.YtnebohdlndiejaaGreatDoor.Sh Go.Proofs.YtnebohdlndiejaaGreatDoor.Er

theorem own : ownKnob Tryz.prog.godebug = none := by kernel_rfl
theorem laidOut : laidOutB Tryz.prog = true := by kernel_rfl
theorem gTab : Tryz.prog.globalNamed "loop.example/g00292/impl.roundWords" = some 10 := by kernel_rfl
theorem tTab : (Tryz.prog.globals[10]?).map (·.type) = some 250 := by kernel_rfl
theorem cells64 : Tryz.prog.cellsOf 250 = 64 := by kernel_rfl
theorem cells1 : Tryz.prog.cellsOf 191 = 1 := by kernel_rfl
theorem rowed : varsRowed Tryz.prog ["loop.example/g00292/impl.roundWords"] = true := by kernel_rfl
theorem cellsE : Tryz.prog.cellsOf 282 = 1 := by kernel_rfl
theorem cellsS : Tryz.prog.cellsOf 9 = 1 := by kernel_rfl
theorem star : "*" ++ "errors.errorString" = "*errors.errorString" := by decide
theorem rowE (u : TypeId) (h : Tryz.prog.typeName? 3 u = some "*errors.errorString") : u = 259 :=
  typeName_ptr_named (nm := "errors.errorString") (by rw [star]; kernel_rfl) (by kernel_rfl) (by decide) u (by rw [star]; exact h)
theorem g_errTooLong : Tryz.prog.globalNamed "loop.example/g00292/impl.errTooLong" = some 0 := by kernel_rfl
theorem t_errTooLong : (Tryz.prog.globals[0]?).map (·.type) = some 68 := by kernel_rfl
theorem g_errNoTable : Tryz.prog.globalNamed "loop.example/g00292/impl.errNoTable" = some 5 := by kernel_rfl
theorem t_errNoTable : (Tryz.prog.globals[5]?).map (·.type) = some 68 := by kernel_rfl
theorem g_errOutside : Tryz.prog.globalNamed "loop.example/g00292/impl.errOutside" = some 1 := by kernel_rfl
theorem t_errOutside : (Tryz.prog.globals[1]?).map (·.type) = some 68 := by kernel_rfl
theorem g_errNoProof : Tryz.prog.globalNamed "loop.example/g00292/impl.errNoProof" = some 6 := by kernel_rfl
theorem t_errNoProof : (Tryz.prog.globals[6]?).map (·.type) = some 68 := by kernel_rfl
theorem g_errOtherRoot : Tryz.prog.globalNamed "loop.example/g00292/impl.errOtherRoot" = some 7 := by kernel_rfl
theorem t_errOtherRoot : (Tryz.prog.globals[7]?).map (·.type) = some 68 := by kernel_rfl
theorem g_errNotSigned : Tryz.prog.globalNamed "loop.example/g00292/impl.errNotSigned" = some 3 := by kernel_rfl
theorem t_errNotSigned : (Tryz.prog.globals[3]?).map (·.type) = some 68 := by kernel_rfl
theorem g_errNoQuorum : Tryz.prog.globalNamed "loop.example/g00292/impl.errNoQuorum" = some 2 := by kernel_rfl
theorem t_errNoQuorum : (Tryz.prog.globals[2]?).map (·.type) = some 68 := by kernel_rfl
theorem g_errNotRight : Tryz.prog.globalNamed "loop.example/g00292/impl.errNotRight" = some 4 := by kernel_rfl
theorem t_errNotRight : (Tryz.prog.globals[4]?).map (·.type) = some 68 := by kernel_rfl
abbrev laidList : List (String × DataW Unit) := [("loop.example/g00292/impl.roundWords", Rows.laid_loop_example_g00292_impl_roundWords), ("loop.example/g00292/impl.errNotRight", Rows.laid_loop_example_g00292_impl_errNotRight), ("loop.example/g00292/impl.errTooLong", Rows.laid_loop_example_g00292_impl_errTooLong), ("loop.example/g00292/impl.errNoTable", Rows.laid_loop_example_g00292_impl_errNoTable), ("loop.example/g00292/impl.errOutside", Rows.laid_loop_example_g00292_impl_errOutside), ("loop.example/g00292/impl.errNoProof", Rows.laid_loop_example_g00292_impl_errNoProof), ("loop.example/g00292/impl.errOtherRoot", Rows.laid_loop_example_g00292_impl_errOtherRoot), ("loop.example/g00292/impl.errNotSigned", Rows.laid_loop_example_g00292_impl_errNotSigned), ("loop.example/g00292/impl.errNoQuorum", Rows.laid_loop_example_g00292_impl_errNoQuorum)]
theorem door_met (os : Os) (args : Array Value) : laidMetH Tryz.prog laidList ((World.doorLaid Tryz.prog 400 os).forCall (fun _ _ => 0) ⟨#[], args, []⟩).memory :=
  laidMetH_of_parts3 (fuel := 8) (laidMet_of_run' 8 (by kernel_rfl) (by kernel_rfl)) (by kernel_rfl) (by kernel_rfl)
theorem list_eq : (Rows.laid_loop_example_g00292_impl_roundWords : DataW Unit) = Lib.tabData .u32 (kList.map nat) := by kernel_rfl
theorem k_len : kList.length = 64 := by decide
/-- One sentinel of the list, with its block. -/
theorem sentinel {P : Program} {n nm : String} {text : List UInt8} {r : List (String × DataW Unit)} {W : World} {g : Nat} {ti tp te ts : TypeId} {ms : Array (String × TypeId)} {f : Field}
    (h : laidMet P ((n, .iface nm (.ptr (.agg [.lit (.string text)]))) :: r) W)
    (hg : P.globalNamed n = some g) (ht : (P.globals[g]?).map (·.type) = some ti) (hi : P.underlying ti = some (.interface ms)) (hrow : ∀ u, P.typeName? 3 u = some nm → u = tp)
    (hp : P.underlying tp = some (.pointer te)) (he : P.underlying te = some (.struct #[f])) (hft : f.type = ts) (hfo : f.offset = 0) (hs : P.underlying ts = some .string) (hc : P.cellsOf te = 1) (hcs : P.cellsOf ts = 1) :
    ∃ (a : Addr) (s : ByteArray), W.var? P n = some #[.iface tp (.pointer (some a))] ∧ W.cell? a = some (.string s) ∧ s.data.toList = text ∧ ∃ c t, W.heap[a.block]? = some (.cells c t (0, 0)) := by
  obtain ⟨ps, ⟨g0, t0, cs0, f0, p0, q0, hg0, ht0, hv0, hd0, _, e0⟩, _, hrows⟩ := h
  obtain rfl := Option.some.inj (hg.symm.trans hg0)
  obtain rfl := Option.some.inj (ht.symm.trans ht0)
  subst e0
  obtain ⟨l0⟩ := cs0
  have ok0 : ∀ u v, l0 = [.iface u v] → Value.okWide P W .any 0 u v := fun u v e => by
    subst e
    exact (hrows g 0 (by simp [MemPlace.row])).2 u v (by simpa using World.var?_cell hg0 hv0 0)
  obtain ⟨a0, s0, rfl, hc0, hs0, hz0, rfl⟩ := errorString_of_trod hi hrow hp he hft hfo hs hc hcs hd0 ok0
  exact ⟨a0, s0, hv0, hc0, hs0, (hrows a0.block a0.off (by simp [MemPlace.row])).1⟩
theorem tailV {H : Type} {enc : TypeId × Value → H} {P : Program} {w : World} {sp : Nat → Bool} {n : String} {ns : List String} {gs : List (DataW H)} {ps : List MemPlace} (h : DataW.TrodVars enc P w sp (n :: ns) gs ps) : ∃ d ds q, gs = d :: ds ∧ DataW.TrodVars enc P w sp ns ds q := by
  cases gs with
  | nil => simp [DataW.TrodVars] at h
  | cons d ds =>
    obtain ⟨g, t, cs, fuel, p, q, h1, h2, h3, h4, hs, e⟩ := h
    exact ⟨d, ds, q, rfl, hs⟩
theorem consV {H : Type} (enc : TypeId × Value → H) {P : Program} {W : World} {n : String} {g : Nat} {ti : TypeId} {ms : Array (String × TypeId)} {x : Value} {ns : List String} {gs : List (DataW H)} {ps : List MemPlace} {sp : Nat → Bool}
    (hg : P.globalNamed n = some g) (ht : (P.globals[g]?).map (·.type) = some ti) (hi : P.underlying ti = some (.interface ms)) (h : W.var? P n = some #[x]) (ix : IsIface x) (hr : DataW.TrodVars enc P W sp ns gs ps) :
    DataW.TrodVars enc P W sp (n :: ns) (tok enc x :: gs) (.cell g 0 :: ps) :=
  ⟨g, ti, #[x], 1, [], ps, hg, ht, h, trod_held hi ix 0, hr, rfl⟩
/-- What the sentinels' variables hold. -/
structure Vars (W : World) (A : Nat → Addr) : Prop where
  v0 : W.var? Tryz.prog "loop.example/g00292/impl.errTooLong" = some #[sen (A 0)]
  v1 : W.var? Tryz.prog "loop.example/g00292/impl.errNoTable" = some #[sen (A 1)]
  v2 : W.var? Tryz.prog "loop.example/g00292/impl.errOutside" = some #[sen (A 2)]
  v3 : W.var? Tryz.prog "loop.example/g00292/impl.errNoProof" = some #[sen (A 3)]
  v4 : W.var? Tryz.prog "loop.example/g00292/impl.errOtherRoot" = some #[sen (A 4)]
  v5 : W.var? Tryz.prog "loop.example/g00292/impl.errNotSigned" = some #[sen (A 5)]
  v6 : W.var? Tryz.prog "loop.example/g00292/impl.errNoQuorum" = some #[sen (A 6)]
  v7 : W.var? Tryz.prog "loop.example/g00292/impl.errNotRight" = some #[sen (A 7)]
theorem var_kept {P : Program} {W W' : World} {n : String} {cs : Array Value} (hb : Below W.heap.size W W') (h : W.var? P n = some cs) : W'.var? P n = some cs := by
  unfold World.var? at h ⊢
  cases hg : P.globalNamed n with
  | none => simp [hg] at h
  | some g =>
    simp only [hg, Option.bind_some] at h ⊢
    have hlt : g < W.heap.size := by
      rcases Nat.lt_or_ge g W.heap.size with h' | h'
      · exact h'
      · simp [Array.getElem?_eq_none h'] at h
    rw [hb.block g hlt]
    exact h
theorem Vars.below {W W' : World} {A : Nat → Addr} (h : Vars W A) (hb : Below W.heap.size W W') : Vars W' A := ⟨var_kept hb h.v0, var_kept hb h.v1, var_kept hb h.v2, var_kept hb h.v3, var_kept hb h.v4, var_kept hb h.v5, var_kept hb h.v6, var_kept hb h.v7⟩
theorem ne_of {W : World} {a b : Addr} {s t : ByteArray} (ha : W.cell? a = some (.string s)) (hb : W.cell? b = some (.string t)) (h : s.data.toList ≠ t.data.toList) : a ≠ b := fun e => by
  subst e
  rw [ha] at hb
  cases hb
  exact h rfl
def names : List String := ["loop.example/g00292/impl.errTooLong", "loop.example/g00292/impl.errOutside", "loop.example/g00292/impl.errNoQuorum", "loop.example/g00292/impl.errNotRight", "loop.example/g00292/impl.errNoTable", "loop.example/g00292/impl.errNoProof", "loop.example/g00292/impl.errOtherRoot", "loop.example/g00292/impl.errNotSigned", "loop.example/g00292/impl.roundWords"]
theorem readV {H : Type} (enc : TypeId × Value → H) {W : World} {A : Nat → Addr} (h : Vars W A) {sp : Nat → Bool} {dv : DataW H} {q : List MemPlace} (T : DataW.TrodVars enc Tryz.prog W sp ["loop.example/g00292/impl.roundWords"] [dv] q) :
    DataW.TrodVars enc Tryz.prog W sp ["loop.example/g00292/impl.errTooLong", "loop.example/g00292/impl.errOutside", "loop.example/g00292/impl.errNoQuorum", "loop.example/g00292/impl.errNotRight", "loop.example/g00292/impl.errNoTable", "loop.example/g00292/impl.errNoProof", "loop.example/g00292/impl.errOtherRoot", "loop.example/g00292/impl.errNotSigned", "loop.example/g00292/impl.roundWords"] [tok enc (sen (A 0)), tok enc (sen (A 2)), tok enc (sen (A 6)), tok enc (sen (A 7)), tok enc (sen (A 1)), tok enc (sen (A 3)), tok enc (sen (A 4)), tok enc (sen (A 5)), dv] (.cell 0 0 :: .cell 1 0 :: .cell 2 0 :: .cell 4 0 :: .cell 5 0 :: .cell 6 0 :: .cell 7 0 :: .cell 3 0 :: q) :=
  (consV enc g_errTooLong t_errTooLong Tryz.underlying68 h.v0 trivial (consV enc g_errOutside t_errOutside Tryz.underlying68 h.v2 trivial (consV enc g_errNoQuorum t_errNoQuorum Tryz.underlying68 h.v6 trivial (consV enc g_errNotRight t_errNotRight Tryz.underlying68 h.v7 trivial (consV enc g_errNoTable t_errNoTable Tryz.underlying68 h.v1 trivial (consV enc g_errNoProof t_errNoProof Tryz.underlying68 h.v3 trivial (consV enc g_errOtherRoot t_errOtherRoot Tryz.underlying68 h.v4 trivial (consV enc g_errNotSigned t_errNotSigned Tryz.underlying68 h.v5 trivial T))))))))
set_option maxRecDepth 100000 in
/-- What the row's list gives the walks. -/
theorem tab_of {W : World} (h : laidMetH Tryz.prog laidList W) : (KTab W ∧ 10 < W.heap.size) ∧ ∃ A, Sen W A ∧ Vars W A := by
  rw [MakeChecks.laidMetH_plain _ _ _ (by kernel_rfl)] at h
  have h0 := h
  obtain ⟨ps, ⟨g0, t0, cs0, f0, p0, q0, hg0, ht0, hv0, hd0, _, _⟩, _, _⟩ := h
  obtain rfl := Option.some.inj (gTab.symm.trans hg0)
  obtain rfl := Option.some.inj (tTab.symm.trans ht0)
  have e : cs0.toList = (kList.map nat).map fun z => Value.int .u32 z := Lib.cells_of_tab Tryz.underlying250 Tryz.underlying191 cells1 cells64 (by rw [← list_eq]; exact hd0)
  have ht : KTab W := by
    intro i hi
    have hl := k_len
    rw [World.var?_cell hg0 hv0 i, ← Array.getElem?_toList, e, List.map_map, List.getElem?_map, List.getElem?_eq_getElem (by omega)]
    unfold kt
    rw [List.getD_eq_getElem?_getD, List.getElem?_eq_getElem (by omega)]
    rfl
  refine ⟨⟨ht, World.block_lt_of_cell? W _ (ht 0 (by decide))⟩, ?_⟩
  have k0 := laidMet.tail h0
  obtain ⟨a7, s7, v7, c7, x7, b7⟩ := sentinel k0 g_errNotRight t_errNotRight Tryz.underlying68 rowE Tryz.underlying259 Tryz.underlying282 rfl rfl Tryz.underlying9 cellsE cellsS
  have k1 := laidMet.tail k0
  obtain ⟨a0, s0, v0, c0, x0, b0⟩ := sentinel k1 g_errTooLong t_errTooLong Tryz.underlying68 rowE Tryz.underlying259 Tryz.underlying282 rfl rfl Tryz.underlying9 cellsE cellsS
  have k2 := laidMet.tail k1
  obtain ⟨a1, s1, v1, c1, x1, b1⟩ := sentinel k2 g_errNoTable t_errNoTable Tryz.underlying68 rowE Tryz.underlying259 Tryz.underlying282 rfl rfl Tryz.underlying9 cellsE cellsS
  have k3 := laidMet.tail k2
  obtain ⟨a2, s2, v2, c2, x2, b2⟩ := sentinel k3 g_errOutside t_errOutside Tryz.underlying68 rowE Tryz.underlying259 Tryz.underlying282 rfl rfl Tryz.underlying9 cellsE cellsS
  have k4 := laidMet.tail k3
  obtain ⟨a3, s3, v3, c3, x3, b3⟩ := sentinel k4 g_errNoProof t_errNoProof Tryz.underlying68 rowE Tryz.underlying259 Tryz.underlying282 rfl rfl Tryz.underlying9 cellsE cellsS
  have k5 := laidMet.tail k4
  obtain ⟨a4, s4, v4, c4, x4, b4⟩ := sentinel k5 g_errOtherRoot t_errOtherRoot Tryz.underlying68 rowE Tryz.underlying259 Tryz.underlying282 rfl rfl Tryz.underlying9 cellsE cellsS
  have k6 := laidMet.tail k5
  obtain ⟨a5, s5, v5, c5, x5, b5⟩ := sentinel k6 g_errNotSigned t_errNotSigned Tryz.underlying68 rowE Tryz.underlying259 Tryz.underlying282 rfl rfl Tryz.underlying9 cellsE cellsS
  have k7 := laidMet.tail k6
  obtain ⟨a6, s6, v6, c6, x6, b6⟩ := sentinel k7 g_errNoQuorum t_errNoQuorum Tryz.underlying68 rowE Tryz.underlying259 Tryz.underlying282 rfl rfl Tryz.underlying9 cellsE cellsS
  refine ⟨fun k => [a0, a1, a2, a3, a4, a5, a6, a7].getD k a0, ⟨by simpa [sen] using World.var?_cell g_errTooLong v0 0, by simpa [sen] using World.var?_cell g_errNoTable v1 0, by simpa [sen] using World.var?_cell g_errOutside v2 0, by simpa [sen] using World.var?_cell g_errNoProof v3 0, by simpa [sen] using World.var?_cell g_errOtherRoot v4 0, by simpa [sen] using World.var?_cell g_errNotSigned v5 0, by simpa [sen] using World.var?_cell g_errNoQuorum v6 0, by simpa [sen] using World.var?_cell g_errNotRight v7 0, ?_, ?_⟩, ⟨v0, v1, v2, v3, v4, v5, v6, v7⟩⟩
  · intro i hi
    rcases (by omega : i = 0 ∨ i = 1 ∨ i = 2 ∨ i = 3 ∨ i = 4 ∨ i = 5 ∨ i = 6 ∨ i = 7) with rfl | rfl | rfl | rfl | rfl | rfl | rfl | rfl
    · exact b0
    · exact b1
    · exact b2
    · exact b3
    · exact b4
    · exact b5
    · exact b6
    · exact b7
  · intro i j hi hj hij
    rcases (by omega : i = 0 ∨ i = 1 ∨ i = 2 ∨ i = 3 ∨ i = 4 ∨ i = 5 ∨ i = 6 ∨ i = 7) with rfl | rfl | rfl | rfl | rfl | rfl | rfl | rfl
    · rcases (by omega : j = 1 ∨ j = 2 ∨ j = 3 ∨ j = 4 ∨ j = 5 ∨ j = 6 ∨ j = 7) with rfl | rfl | rfl | rfl | rfl | rfl | rfl
      · exact ne_of c0 c1 (by rw [x0, x1]; decide)
      · exact ne_of c0 c2 (by rw [x0, x2]; decide)
      · exact ne_of c0 c3 (by rw [x0, x3]; decide)
      · exact ne_of c0 c4 (by rw [x0, x4]; decide)
      · exact ne_of c0 c5 (by rw [x0, x5]; decide)
      · exact ne_of c0 c6 (by rw [x0, x6]; decide)
      · exact ne_of c0 c7 (by rw [x0, x7]; decide)
    · rcases (by omega : j = 0 ∨ j = 2 ∨ j = 3 ∨ j = 4 ∨ j = 5 ∨ j = 6 ∨ j = 7) with rfl | rfl | rfl | rfl | rfl | rfl | rfl
      · exact ne_of c1 c0 (by rw [x1, x0]; decide)
      · exact ne_of c1 c2 (by rw [x1, x2]; decide)
      · exact ne_of c1 c3 (by rw [x1, x3]; decide)
      · exact ne_of c1 c4 (by rw [x1, x4]; decide)
      · exact ne_of c1 c5 (by rw [x1, x5]; decide)
      · exact ne_of c1 c6 (by rw [x1, x6]; decide)
      · exact ne_of c1 c7 (by rw [x1, x7]; decide)
    · rcases (by omega : j = 0 ∨ j = 1 ∨ j = 3 ∨ j = 4 ∨ j = 5 ∨ j = 6 ∨ j = 7) with rfl | rfl | rfl | rfl | rfl | rfl | rfl
      · exact ne_of c2 c0 (by rw [x2, x0]; decide)
      · exact ne_of c2 c1 (by rw [x2, x1]; decide)
      · exact ne_of c2 c3 (by rw [x2, x3]; decide)
      · exact ne_of c2 c4 (by rw [x2, x4]; decide)
      · exact ne_of c2 c5 (by rw [x2, x5]; decide)
      · exact ne_of c2 c6 (by rw [x2, x6]; decide)
      · exact ne_of c2 c7 (by rw [x2, x7]; decide)
    · rcases (by omega : j = 0 ∨ j = 1 ∨ j = 2 ∨ j = 4 ∨ j = 5 ∨ j = 6 ∨ j = 7) with rfl | rfl | rfl | rfl | rfl | rfl | rfl
      · exact ne_of c3 c0 (by rw [x3, x0]; decide)
      · exact ne_of c3 c1 (by rw [x3, x1]; decide)
      · exact ne_of c3 c2 (by rw [x3, x2]; decide)
      · exact ne_of c3 c4 (by rw [x3, x4]; decide)
      · exact ne_of c3 c5 (by rw [x3, x5]; decide)
      · exact ne_of c3 c6 (by rw [x3, x6]; decide)
      · exact ne_of c3 c7 (by rw [x3, x7]; decide)
    · rcases (by omega : j = 0 ∨ j = 1 ∨ j = 2 ∨ j = 3 ∨ j = 5 ∨ j = 6 ∨ j = 7) with rfl | rfl | rfl | rfl | rfl | rfl | rfl
      · exact ne_of c4 c0 (by rw [x4, x0]; decide)
      · exact ne_of c4 c1 (by rw [x4, x1]; decide)
      · exact ne_of c4 c2 (by rw [x4, x2]; decide)
      · exact ne_of c4 c3 (by rw [x4, x3]; decide)
      · exact ne_of c4 c5 (by rw [x4, x5]; decide)
      · exact ne_of c4 c6 (by rw [x4, x6]; decide)
      · exact ne_of c4 c7 (by rw [x4, x7]; decide)
    · rcases (by omega : j = 0 ∨ j = 1 ∨ j = 2 ∨ j = 3 ∨ j = 4 ∨ j = 6 ∨ j = 7) with rfl | rfl | rfl | rfl | rfl | rfl | rfl
      · exact ne_of c5 c0 (by rw [x5, x0]; decide)
      · exact ne_of c5 c1 (by rw [x5, x1]; decide)
      · exact ne_of c5 c2 (by rw [x5, x2]; decide)
      · exact ne_of c5 c3 (by rw [x5, x3]; decide)
      · exact ne_of c5 c4 (by rw [x5, x4]; decide)
      · exact ne_of c5 c6 (by rw [x5, x6]; decide)
      · exact ne_of c5 c7 (by rw [x5, x7]; decide)
    · rcases (by omega : j = 0 ∨ j = 1 ∨ j = 2 ∨ j = 3 ∨ j = 4 ∨ j = 5 ∨ j = 7) with rfl | rfl | rfl | rfl | rfl | rfl | rfl
      · exact ne_of c6 c0 (by rw [x6, x0]; decide)
      · exact ne_of c6 c1 (by rw [x6, x1]; decide)
      · exact ne_of c6 c2 (by rw [x6, x2]; decide)
      · exact ne_of c6 c3 (by rw [x6, x3]; decide)
      · exact ne_of c6 c4 (by rw [x6, x4]; decide)
      · exact ne_of c6 c5 (by rw [x6, x5]; decide)
      · exact ne_of c6 c7 (by rw [x6, x7]; decide)
    · rcases (by omega : j = 0 ∨ j = 1 ∨ j = 2 ∨ j = 3 ∨ j = 4 ∨ j = 5 ∨ j = 6) with rfl | rfl | rfl | rfl | rfl | rfl | rfl
      · exact ne_of c7 c0 (by rw [x7, x0]; decide)
      · exact ne_of c7 c1 (by rw [x7, x1]; decide)
      · exact ne_of c7 c2 (by rw [x7, x2]; decide)
      · exact ne_of c7 c3 (by rw [x7, x3]; decide)
      · exact ne_of c7 c4 (by rw [x7, x4]; decide)
      · exact ne_of c7 c5 (by rw [x7, x5]; decide)
      · exact ne_of c7 c6 (by rw [x7, x6]; decide)
end Go.Proofs.YtnebohdlndiejaaGreatDoor.Hl
