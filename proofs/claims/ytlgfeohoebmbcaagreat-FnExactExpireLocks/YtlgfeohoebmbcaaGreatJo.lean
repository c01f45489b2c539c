/- The laws' marks on locks whose waiters lie anywhere. -/
import Derived.Test.YtlgfeohoebmbcaaGreatJn
namespace Go.Proofs.YtlgfeohoebmbcaaGreat.Jn
open Go.RowKit Go.Proofs.YtlgfeohoebmbcaaGreat.Sl Go.Proofs.YtlgfeohoebmbcaaGreat.By Go.Proofs.YtlgfeohoebmbcaaGreat.Ap Go.Proofs.YtlgfeohoebmbcaaGreat.Tb Go.Proofs.YtlgfeohoebmbcaaGreat.Tw
open Go.Proofs.YtlgfeohoebmbcaaGreat.Mw (mtext markText_any Wr Wr.lt Wr.below Wr.set Wr.cell set_same set_off markNilW_any heldNilW_any Mid Mid.refl Mid.trans Mid.set Mid.below)
open Go.Proofs.YtlgfeohoebmbcaaGreat.Wa (OwnS OwnS.kept OwnS.lt OwnS.slice OwnS.below)
open Go.Proofs.YtlgfeohoebmbcaaGreat.Lo (LkA uV OwnL OwnL.kept OwnL.lt OwnL.slice own_block kind_ne clL atL Apart)
open Go.Proofs.YtlgfeohoebmbcaaGreat.Tx (blk_cell blk_set blk_far bel_new size_new)
open Go.Proofs.YtlgfeohoebmbcaaGreat.Jb (OwnO OwnO.kept OwnO.lt)

def off (ms : List LkA) (a : Nat) : Nat → Nat
  | 0 => a
  | j + 1 => off ms a j + 4 + (ms.getD j (default, none, 0)).1.ws.length * 2
theorem off_succ {ms : List LkA} {a j : Nat} {m : LkA} (h : ms[j]? = some m) : off ms a (j + 1) = off ms a j + 4 + m.1.ws.length * 2 := by
  show _ + _ + _ = _
  rw [List.getD_eq_getElem?_getD, h]
  rfl
theorem off_le {ms : List LkA} {a : Nat} (hw : ∀ m ∈ ms, m.1.ws.length ≤ 1000) : ∀ j, j ≤ ms.length → a ≤ off ms a j ∧ off ms a j ≤ a + j * 2004
  | 0, _ => by simp [off]
  | j + 1, hj => by
    obtain ⟨m, hm⟩ := Tw.get_at (show j < ms.length by omega)
    have ih := off_le (a := a) hw j (by omega)
    have := hw m (Tw.mem_at hm)
    rw [off_succ hm]
    omega
structure Mt (W : World) (gl : Nat) (ms : List LkA) (a k : Nat) : Prop where
  lb : Wr W gl (ms.length * 5)
  u : ∀ j m, ms[j]? = some m → W.cell? ⟨gl, j * 5 + 4, none⟩ = some (uV m)
  wr : ∀ j m, k ≤ j → ms[j]? = some m → m.1.ws.length = 0 ∨ ∃ g o, m.2.1 = some ⟨g, o, none⟩ ∧ g ≠ gl ∧ m.1.ws.length ≤ m.2.2 ∧ Wr W g (o + m.1.ws.length * 2)
  di : ∀ (i j : Nat) (x y : LkA), i < j → ms[i]? = some x → ms[j]? = some y → ∀ g o o', x.2.1 = some ⟨g, o, none⟩ → y.2.1 ≠ some ⟨g, o', none⟩
  dn : ∀ j m, j < k → ms[j]? = some m → (W.cell? ⟨gl, j * 5, none⟩ = some (.string (mtext (off ms a j))) ∧ W.cell? ⟨gl, j * 5 + 1, none⟩ = some (.int .i64 ((off ms a j : Nat) + 1)) ∧ W.cell? ⟨gl, j * 5 + 2, none⟩ = some (.int .i64 ((off ms a j : Nat) + 1 + 1)) ∧ W.cell? ⟨gl, j * 5 + 3, none⟩ = some (.int .i64 ((off ms a j : Nat) + 1 + 1 + 1))) ∧ (m.1.ws.length = 0 ∨ ∃ g o, m.2.1 = some ⟨g, o, none⟩ ∧ g ≠ gl ∧ m.1.ws.length ≤ m.2.2 ∧ g < W.heap.size ∧ MkO W g o (off ms a j + 4) m.1.ws.length)
theorem Mt.below {W W' : World} {gl : Nat} {ms : List LkA} {a k : Nat} (h : Mt W gl ms a k) (hb : Below W.heap.size W W') : Mt W' gl ms a k :=
  ⟨h.lb.below hb, fun j m hj => (hb.cell (p := ⟨gl, _, none⟩) h.lb.lt).trans (h.u j m hj), fun j m hk hj => (h.wr j m hk hj).imp id fun ⟨g, o, h1, h2, h3, h4⟩ => ⟨g, o, h1, h2, h3, h4.below hb⟩, h.di, fun j m hk hj => by
    obtain ⟨⟨c0, c1, c2, c3⟩, hw⟩ := h.dn j m hk hj
    exact ⟨⟨(hb.cell (p := ⟨gl, _, none⟩) h.lb.lt).trans c0, (hb.cell (p := ⟨gl, _, none⟩) h.lb.lt).trans c1, (hb.cell (p := ⟨gl, _, none⟩) h.lb.lt).trans c2, (hb.cell (p := ⟨gl, _, none⟩) h.lb.lt).trans c3⟩, hw.imp id fun ⟨g, o, h1, h2, h3, h4, h5⟩ => ⟨g, o, h1, h2, h3, Nat.lt_of_lt_of_le h4 hb.size, h5.below h4 hb⟩⟩⟩
theorem MkO.far {W : World} {g o a q p i : Nat} {v : Value} (h : MkO W g o a q) (hne : g ≠ p) : MkO (W.setCell ⟨p, i, none⟩ v) g o a q := fun j hj =>
  ⟨(World.cell?_of_block (a := ⟨g, _, none⟩) (blk_far hne i v)).trans (h j hj).1, (World.cell?_of_block (a := ⟨g, _, none⟩) (blk_far hne i v)).trans (h j hj).2⟩
theorem Mt.set {W : World} {gl : Nat} {ms : List LkA} {a k : Nat} (h : Mt W gl ms a k) (i : Nat) (hi : i < 4) (v : Value) : Mt (W.setCell ⟨gl, k * 5 + i, none⟩ v) gl ms a k :=
  ⟨h.lb.set _ _ _, fun j m hj => (set_off (by omega) v).trans (h.u j m hj), fun j m hk hj => (h.wr j m hk hj).imp id fun ⟨g, o, h1, h2, h3, h4⟩ => ⟨g, o, h1, h2, h3, h4.set _ _ _⟩, h.di, fun j m hk hj => by
    obtain ⟨⟨c0, c1, c2, c3⟩, hw⟩ := h.dn j m hk hj
    exact ⟨⟨(set_off (by omega) v).trans c0, (set_off (by omega) v).trans c1, (set_off (by omega) v).trans c2, (set_off (by omega) v).trans c3⟩, hw.imp id fun ⟨g, o, h1, h2, h3, h4, h5⟩ => ⟨g, o, h1, h2, h3, by simpa using h4, MkO.far h5 h2⟩⟩⟩
/-- What a mark on locks keeps. -/
structure Cg (gl : Nat) (ms : List LkA) (w w' : World) : Prop where
  os : w'.os = w.os
  tape : w'.tape = w.tape
  output : w'.output = w.output
  size : w.heap.size ≤ w'.heap.size
  block : ∀ k, k < w.heap.size → k ≠ gl → (∀ m ∈ ms, ∀ o, m.2.1 ≠ some ⟨k, o, none⟩) → w'.heap[k]? = w.heap[k]?
theorem Cg.refl (gl : Nat) (ms : List LkA) (w : World) : Cg gl ms w w := ⟨rfl, rfl, rfl, Nat.le_refl _, fun _ _ _ _ => rfl⟩
theorem Cg.below {gl : Nat} {ms : List LkA} {w w1 w2 : World} (h : Cg gl ms w w1) (hb : Below w1.heap.size w1 w2) : Cg gl ms w w2 :=
  ⟨hb.os.trans h.os, hb.tape.trans h.tape, hb.output.trans h.output, Nat.le_trans h.size hb.size, fun k hk h1 h2 => (hb.block k (Nat.lt_of_lt_of_le hk h.size)).trans (h.block k hk h1 h2)⟩
theorem Cg.set {gl : Nat} {ms : List LkA} {w w1 : World} (h : Cg gl ms w w1) (i : Nat) (v : Value) : Cg gl ms w (w1.setCell ⟨gl, i, none⟩ v) :=
  ⟨h.os, h.tape, h.output, by simpa using h.size, fun k hk h1 h2 => (blk_far h1 i v).trans (h.block k hk h1 h2)⟩
theorem Cg.mid {gl g o : Nat} {ms : List LkA} {w w1 w2 : World} {m : LkA} (h : Cg gl ms w w1) (hm : m ∈ ms) (hg : m.2.1 = some ⟨g, o, none⟩) (hb : Mid g (g + 1) w1 w2) : Cg gl ms w w2 :=
  ⟨hb.os.trans h.os, hb.tape.trans h.tape, hb.output.trans h.output, Nat.le_trans h.size hb.size, fun k hk h1 h2 => (hb.block k (Nat.lt_of_lt_of_le hk h.size) (by have : k ≠ g := fun e => h2 m hm o (by rw [hg, e]); omega)).trans (h.block k hk h1 h2)⟩
/-- One lock more is marked: its own cells, then those that wait. -/
theorem Mt.stepN {W : World} {gl : Nat} {ms : List LkA} {a k : Nat} {m : LkA} (h : Mt W gl ms a k) (hm : ms[k]? = some m) (h0 : m.1.ws.length = 0)
    (c0 : W.cell? ⟨gl, k * 5, none⟩ = some (.string (mtext (off ms a k)))) (c1 : W.cell? ⟨gl, k * 5 + 1, none⟩ = some (.int .i64 ((off ms a k : Nat) + 1))) (c2 : W.cell? ⟨gl, k * 5 + 2, none⟩ = some (.int .i64 ((off ms a k : Nat) + 1 + 1))) (c3 : W.cell? ⟨gl, k * 5 + 3, none⟩ = some (.int .i64 ((off ms a k : Nat) + 1 + 1 + 1))) : Mt W gl ms a (k + 1) :=
  ⟨h.lb, h.u, fun j x hk hj => h.wr j x (by omega) hj, h.di, fun j x hk hj => by
    by_cases e : j = k
    · subst e
      rw [hm] at hj
      cases hj
      exact ⟨⟨c0, c1, c2, c3⟩, .inl h0⟩
    · exact h.dn j x (by omega) hj⟩
theorem Mt.stepS {W W' : World} {gl g o : Nat} {ms : List LkA} {a k : Nat} {m : LkA} (h : Mt W gl ms a k) (hm : ms[k]? = some m) (hg : m.2.1 = some ⟨g, o, none⟩) (hne : g ≠ gl) (hc : m.1.ws.length ≤ m.2.2) (hlt : g < W.heap.size) (hb : Mid g (g + 1) W W') (hk : MkO W' g o (off ms a k + 4) m.1.ws.length)
    (c0 : W.cell? ⟨gl, k * 5, none⟩ = some (.string (mtext (off ms a k)))) (c1 : W.cell? ⟨gl, k * 5 + 1, none⟩ = some (.int .i64 ((off ms a k : Nat) + 1))) (c2 : W.cell? ⟨gl, k * 5 + 2, none⟩ = some (.int .i64 ((off ms a k : Nat) + 1 + 1))) (c3 : W.cell? ⟨gl, k * 5 + 3, none⟩ = some (.int .i64 ((off ms a k : Nat) + 1 + 1 + 1))) : Mt W' gl ms a (k + 1) := by
  have hl := h.lb.lt
  have kb : ∀ x, x < W.heap.size → x ≠ g → W'.heap[x]? = W.heap[x]? := fun x hx hn => hb.block x hx (by omega)
  have kc : ∀ x i v, x < W.heap.size → x ≠ g → W.cell? ⟨x, i, none⟩ = some v → W'.cell? ⟨x, i, none⟩ = some v := fun x i v hx hn hv => (World.cell?_of_block (a := ⟨x, i, none⟩) (kb x hx hn)).trans hv
  have kw : ∀ x n, x ≠ g → Wr W x n → Wr W' x n := fun x n hn hw => by
    obtain ⟨A, t, h1, h2⟩ := hw
    exact ⟨A, t, (kb x (Array.getElem?_eq_some_iff.1 h1).1 hn).trans h1, h2⟩
  refine ⟨kw gl _ (Ne.symm hne) h.lb, fun j x hj => kc gl _ _ hl (Ne.symm hne) (h.u j x hj), fun j x hk' hj => (h.wr j x (by omega) hj).imp id fun ⟨g', o', h1, h2, h3, h4⟩ => ⟨g', o', h1, h2, h3, kw g' _ (fun e => h.di k j m x (by omega) hm hj g o o' hg (by rw [h1, e])) h4⟩, h.di, fun j x hk' hj => ?_⟩
  by_cases e : j = k
  · subst e
    rw [hm] at hj
    cases hj
    exact ⟨⟨kc gl _ _ hl (Ne.symm hne) c0, kc gl _ _ hl (Ne.symm hne) c1, kc gl _ _ hl (Ne.symm hne) c2, kc gl _ _ hl (Ne.symm hne) c3⟩, .inr ⟨g, o, hg, hne, hc, Nat.lt_of_lt_of_le hlt hb.size, hk⟩⟩
  · obtain ⟨⟨d0, d1, d2, d3⟩, hw⟩ := h.dn j x (by omega) hj
    refine ⟨⟨kc gl _ _ hl (Ne.symm hne) d0, kc gl _ _ hl (Ne.symm hne) d1, kc gl _ _ hl (Ne.symm hne) d2, kc gl _ _ hl (Ne.symm hne) d3⟩, hw.imp id fun ⟨g', o', h1, h2, h3, h4, h5⟩ => ⟨g', o', h1, h2, h3, Nat.lt_of_lt_of_le h4 hb.size, fun q hq => ?_⟩⟩
    have hn : g' ≠ g := fun e => h.di j k x m (by omega) hj hm g' o' o h1 (by rw [hg, e])
    exact ⟨kc g' _ _ h4 hn (h5 q hq).1, kc g' _ _ h4 hn (h5 q hq).2⟩
set_option maxRecDepth 100000 in
set_option maxHeartbeats 3200000 in
theorem markLocks_any (gl cap : Nat) (ms : List LkA) (a : Nat) (w : World) (h : Mt w gl ms a 0) (hn : ms.length ≤ 1000) (hw : ∀ m ∈ ms, m.1.ws.length ≤ 1000) (ha : 0 < a) (ha2 : a ≤ 1000) :
    Calls Tryz.prog 50 #[.slice (some ⟨gl, 0, none⟩) ms.length cap, .int .i64 a] w fun e w' => e = .returned (.int .i64 (off ms a ms.length : Nat)) ∧ Mt w' gl ms a ms.length ∧ Cg gl ms w w' := by
  have H : Hid (Mt w gl ms a 0) := h
  have HO : Hid (∀ j, j ≤ ms.length → a ≤ off ms a j ∧ off ms a j ≤ a + j * 2004) := off_le hw
  have HW : Hid (∀ m ∈ ms, m.1.ws.length ≤ 1000) := hw
  clear h hw
  go_enter Tryz.func50, Tryz.ntmps50
  go_wp2_with fail
  go_loopw [1, 5] (fun k i wr => ∃ q : Nat, q ≤ ms.length ∧ k = .int .i64 (off ms a q : Nat) ∧ i = .int .i64 q ∧ Hid (Mt wr gl ms a q ∧ Cg gl ms w wr)) (fun _ i _ => ms.length - (intOf i).toNat)
  case atStart => exact ⟨0, by omega, rfl, rfl, H.out, Cg.refl _ _ _⟩
  case round =>
    obtain ⟨q, hq, rfl, rfl, HA⟩ := hrel
    by_cases hlt : q < ms.length
    · obtain ⟨m, hm⟩ := Tw.get_at hlt
      have ho := HO.out q hq
      have HM : Hid (ms[q]? = some m) := hm
      have HES : Hid (off ms a (q + 1) = off ms a q + 4 + m.1.ws.length * 2) := off_succ hm
      have HWM : Hid (m.1.ws.length ≤ 1000) := HW.out m (Tw.mem_at hm)
      have HTX : Hid (∀ W, Calls Tryz.prog 62 #[.int .i64 (off ms a q : Nat)] W fun e w' => e = .returned (.string (mtext (off ms a q))) ∧ Below W.heap.size W w') := fun W => markText_any (off ms a q) W (by omega) (by omega)
      clear hm
      go_wp2_with fail
      refine (HTX.out _).mono ?_
      rintro e w2 ⟨rfl, b2⟩
      have HB : Hid (Mt w2 gl ms a q ∧ Cg gl ms w w2) := ⟨HA.out.1.below b2, HA.out.2.below b2⟩
      clear b2 HA
      obtain ⟨⟨x0, c0⟩, f0⟩ := HB.out.1.lb.cell (j := q * 5) (by omega)
      obtain ⟨⟨x1, c1⟩, f1⟩ := HB.out.1.lb.cell (j := q * 5 + 1) (by omega)
      obtain ⟨⟨x2, c2⟩, f2⟩ := HB.out.1.lb.cell (j := q * 5 + 2) (by omega)
      obtain ⟨⟨x3, c3⟩, f3⟩ := HB.out.1.lb.cell (j := q * 5 + 3) (by omega)
      have c4 := HB.out.1.u q m HM.out
      obtain ⟨o, HOO⟩ : ∃ o, Hid (off ms a q = o) := ⟨_, rfl⟩
      obtain ⟨mt, HMT⟩ : ∃ mt, Hid (mtext (off ms a q) = mt) := ⟨_, rfl⟩
      rw [HMT.out]
      rw [HOO.out] at ho ⊢
      have HC : Hid (Mt ((((w2.setCell ⟨gl, q * 5, none⟩ (.string mt)).setCell ⟨gl, q * 5 + 1, none⟩ (.int .i64 ((o : Int) + 1))).setCell ⟨gl, q * 5 + 2, none⟩ (.int .i64 ((o : Int) + 1 + 1))).setCell ⟨gl, q * 5 + 3, none⟩ (.int .i64 ((o : Int) + 1 + 1 + 1))) gl ms a q ∧ Cg gl ms w ((((w2.setCell ⟨gl, q * 5, none⟩ (.string mt)).setCell ⟨gl, q * 5 + 1, none⟩ (.int .i64 ((o : Int) + 1))).setCell ⟨gl, q * 5 + 2, none⟩ (.int .i64 ((o : Int) + 1 + 1))).setCell ⟨gl, q * 5 + 3, none⟩ (.int .i64 ((o : Int) + 1 + 1 + 1)))
          ∧ (((((w2.setCell ⟨gl, q * 5, none⟩ (.string mt)).setCell ⟨gl, q * 5 + 1, none⟩ (.int .i64 ((o : Int) + 1))).setCell ⟨gl, q * 5 + 2, none⟩ (.int .i64 ((o : Int) + 1 + 1))).setCell ⟨gl, q * 5 + 3, none⟩ (.int .i64 ((o : Int) + 1 + 1 + 1))).cell? ⟨gl, q * 5, none⟩ = some (.string mt) ∧ ((((w2.setCell ⟨gl, q * 5, none⟩ (.string mt)).setCell ⟨gl, q * 5 + 1, none⟩ (.int .i64 ((o : Int) + 1))).setCell ⟨gl, q * 5 + 2, none⟩ (.int .i64 ((o : Int) + 1 + 1))).setCell ⟨gl, q * 5 + 3, none⟩ (.int .i64 ((o : Int) + 1 + 1 + 1))).cell? ⟨gl, q * 5 + 1, none⟩ = some (.int .i64 ((o : Int) + 1)) ∧ ((((w2.setCell ⟨gl, q * 5, none⟩ (.string mt)).setCell ⟨gl, q * 5 + 1, none⟩ (.int .i64 ((o : Int) + 1))).setCell ⟨gl, q * 5 + 2, none⟩ (.int .i64 ((o : Int) + 1 + 1))).setCell ⟨gl, q * 5 + 3, none⟩ (.int .i64 ((o : Int) + 1 + 1 + 1))).cell? ⟨gl, q * 5 + 2, none⟩ = some (.int .i64 ((o : Int) + 1 + 1)) ∧ ((((w2.setCell ⟨gl, q * 5, none⟩ (.string mt)).setCell ⟨gl, q * 5 + 1, none⟩ (.int .i64 ((o : Int) + 1))).setCell ⟨gl, q * 5 + 2, none⟩ (.int .i64 ((o : Int) + 1 + 1))).setCell ⟨gl, q * 5 + 3, none⟩ (.int .i64 ((o : Int) + 1 + 1 + 1))).cell? ⟨gl, q * 5 + 3, none⟩ = some (.int .i64 ((o : Int) + 1 + 1 + 1)))) := by
        have hl := HB.out.1.lb
        refine ⟨(((HB.out.1.set 0 (by decide) _).set 1 (by decide) _).set 2 (by decide) _).set 3 (by decide) _, (((HB.out.2.set _ _).set _ _).set _ _).set _ _, ?_, ?_, ?_, ?_⟩
        · rw [set_off (by omega), set_off (by omega), set_off (by omega)]; exact set_same hl (by omega) _
        · rw [set_off (by omega), set_off (by omega)]; exact set_same (hl.set _ _ _) (by omega) _
        · rw [set_off (by omega)]; exact set_same ((hl.set _ _ _).set _ _ _) (by omega) _
        · exact set_same (((hl.set _ _ _).set _ _ _).set _ _ _) (by omega) _
      clear HB
      have c4' : Hid (w2.cell? ⟨gl, q * 5 + 4, none⟩ = some (uV m)) := c4
      unfold uV at c4
      go_wp2_with fail
      generalize ((((w2.setCell ⟨gl, q * 5, none⟩ (.string mt)).setCell ⟨gl, q * 5 + 1, none⟩ (.int .i64 ((o : Int) + 1))).setCell ⟨gl, q * 5 + 2, none⟩ (.int .i64 ((o : Int) + 1 + 1))).setCell ⟨gl, q * 5 + 3, none⟩ (.int .i64 ((o : Int) + 1 + 1 + 1))) = w3 at HC ⊢
      have ER : Hid ((o : Int) + 1 + 1 + 1 + 1 = ((o + 4 : Nat) : Int)) := by show _ = _; omega
      rw [ER.out]
      have HMW : Hid (Calls Tryz.prog 79 #[.slice m.2.1 m.1.ws.length m.2.2, .int .i64 ((o + 4 : Nat) : Int)] w3 fun e w' => e = .returned (.int .i64 ((o + 4 + m.1.ws.length * 2 : Nat) : Int)) ∧ Mt w' gl ms a (q + 1) ∧ Cg gl ms w w') := by
        obtain ⟨hT, hC, d0, d1, d2, d3⟩ := HC.out
        rw [← HMT.out] at d0
        rw [← HOO.out] at d1 d2 d3
        by_cases h0 : m.1.ws.length = 0
        · rw [h0]
          refine (markNilW_any (o + 4) m.2.1 m.2.2 w3).mono ?_
          rintro e w' ⟨rfl, e2⟩
          rw [e2]
          exact ⟨by simp, hT.stepN HM.out h0 d0 d1 d2 d3, hC⟩
        · obtain ⟨g, o1, hg, hne, hc, hwr⟩ := (hT.wr q m (Nat.le_refl _) HM.out).resolve_left h0
          rw [hg]
          refine (markOwnO_any g o1 m.1.ws.length m.2.2 (o + 4) w3 hwr hc (by have := HWM.out; omega) (by omega)).mono ?_
          rintro e w' ⟨rfl, hk, hm⟩
          rw [← HOO.out] at hk
          exact ⟨rfl, hT.stepS HM.out hg hne hc hwr.lt hm hk d0 d1 d2 d3, hC.mid (Tw.mem_at HM.out) hg hm⟩
      clear HC c0 c1 c2 c3 c4 f0 f1 f2 f3 c4'
      refine HMW.out.mono ?_
      rintro e w4 ⟨rfl, m4, g4⟩
      have HF : Hid (Mt w4 gl ms a (q + 1) ∧ Cg gl ms w w4) := ⟨m4, g4⟩
      have HEQ : Hid (((o + 4 + m.1.ws.length * 2 : Nat) : Int) = (off ms a (q + 1) : Nat)) := by show _ = _; rw [HES.out, HOO.out]
      rw [HEQ.out]
      clear m4 g4 HMW
      go_wp2_with fail
      exact ⟨⟨q + 1, by omega, rfl, by go_num, HF⟩, by simp [intOf]; omega⟩
    · obtain rfl : q = ms.length := by omega
      go_wp2_with fail
      go_ret
      exact ⟨rfl, HA.out⟩
end Go.Proofs.YtlgfeohoebmbcaaGreat.Jn
