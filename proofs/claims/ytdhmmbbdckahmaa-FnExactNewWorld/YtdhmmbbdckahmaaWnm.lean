/- Marks on new clients. -/
import Derived.Test.YtdhmmbbdckahmaaWnd
namespace Go.Proofs.Ytdhmmbbdckahmaa.Wn
open Go.RowKit Go.Proofs.Ytdhmmbbdckahmaa.Rg Go.Proofs.Ytdhmmbbdckahmaa.Nr Go.Proofs.Ytdhmmbbdckahmaa.Is
open Go.Proofs.Ytdhmmbbdckahmaa.Ng (ImpP SpP OwnQ Apart eqGroup_new markGroup_new heldGroup_new HeldI HeldQ)
open Go.Proofs.Ytdhmmbbdckahmaa.Cl (clV Cd eqC_same)
open Go.Proofs.Ytdhmmbbdckahmaa.Rr (grown_set grown_trans grown_refl grown_alloc)
/-- The mark in cell x of client j; what lies there ahead. -/
def mkD (a j : Nat) (p : CV) : Nat → Value
  | 0 => .int .i64 ((a + 8 * j : Nat) : Int)
  | 1 => .int .i64 ((a + 8 * j + 1 : Nat) : Int)
  | 2 => .bool (((a + 8 * j + 2 : Nat) : Int) % 3 == 0)
  | 3 => .int .i64 ((a + 8 * j + 3 : Nat) : Int)
  | 4 => .int .i64 ((a + 8 * j + 4 : Nat) : Int)
  | 5 => .int .i64 ((a + 8 * j + 5 : Nat) : Int)
  | 6 => .int .i64 ((a + 8 * j + 6 : Nat) : Int)
  | 7 => .string (mtext (a + 8 * j + 7))
  | 8 => .slice p.ra 0 0
  | _ => .slice p.ca 0 0
def orD (p : CV) (x : Nat) : Value := (clD p).getD x (.slice p.ca 0 0)
/-- Marks up to cell i of client q. -/
def Ms (w : World) (g : Nat) (cs : List CV) (a q i : Nat) : Prop := ∃ A : Array Value, w.heap[g]? = some (.cells A 49 (0, 0)) ∧ ∀ (j x : Nat) (p : CV), cs[j]? = some p → x < 10 → A[j * 10 + x]? = some (if j < q ∨ (j = q ∧ x < i) then mkD a j p x else orD p x)
theorem Ms.of {w : World} {B g n cap a : Nat} {cs : List CV} (h : OwnD w B (.slice (some ⟨g, 0, none⟩) n cap) cs) : Ms w g cs a 0 0 := by
  by_cases h0 : cs = []
  · subst h0
    rcases h.2 with ⟨e, _⟩ | ⟨g', cap', cur, e, _, hg, _⟩
    · cases e
    · cases e
      exact ⟨cur, hg, fun j x p hp => by simp at hp⟩
  · obtain ⟨p0, hp0⟩ := Rg.get_at (xs := cs) (k := 0) (by cases cs with | nil => exact absurd rfl h0 | cons => simp)
    obtain ⟨g', cap', cur, e, _, _, hg, _⟩ := h.at hp0
    cases e
    refine ⟨cur, hg, fun j x p hp hx => ?_⟩
    obtain ⟨g', cap', cur', e, _, _, hg', hc⟩ := h.at hp
    cases e
    rw [hg] at hg'
    obtain rfl : cur = cur' := by injection hg' with hg'; injection hg'
    rw [if_neg (by omega)]
    refine hc x _ hx ?_
    unfold orD
    rw [List.getD_eq_getElem?_getD, List.getElem?_eq_getElem (show x < (clD p).length from hx)]
    rfl
theorem Ms.below {w w' : World} {g a q i : Nat} {cs : List CV} (h : Ms w g cs a q i) (hb : Below w.heap.size w w') : Ms w' g cs a q i := by
  obtain ⟨A, h1, h2⟩ := h
  exact ⟨A, (hb.block _ (Array.getElem?_eq_some_iff.1 h1).1).trans h1, h2⟩
theorem Ms.lt {w : World} {g a q i : Nat} {cs : List CV} (h : Ms w g cs a q i) : g < w.heap.size := by
  obtain ⟨A, h1, h2⟩ := h
  exact (Array.getElem?_eq_some_iff.1 h1).1
theorem Ms.cell {w : World} {g a q i : Nat} {cs : List CV} (h : Ms w g cs a q i) {p : CV} {j x : Nat} (hp : cs[j]? = some p) (hx : x < 10) : w.cell? ⟨g, j * 10 + x, none⟩ = some (if j < q ∨ (j = q ∧ x < i) then mkD a j p x else orD p x) ∧ w.frozen? ⟨g, j * 10 + x, none⟩ = false := by
  obtain ⟨A, h1, h2⟩ := h
  exact blk_cell h1 _ (h2 j x p hp hx)
theorem Ms.old {w : World} {g a q i : Nat} {cs : List CV} (h : Ms w g cs a q i) {p : CV} {x : Nat} (hp : cs[q]? = some p) (hx : x < 10) (hi : i ≤ x) {u : Value} (hu : orD p x = u) : w.cell? ⟨g, q * 10 + x, none⟩ = some u ∧ w.frozen? ⟨g, q * 10 + x, none⟩ = false := by
  have := h.cell hp hx
  rw [if_neg (by omega), hu] at this
  exact this
theorem Ms.step {w : World} {g a q i : Nat} {cs : List CV} (h : Ms w g cs a q i) {p : CV} (hp : cs[q]? = some p) (hi : i < 10) {z : Value} (hz : z = mkD a q p i) : Ms (w.setCell ⟨g, q * 10 + i, none⟩ z) g cs a q (i + 1) := by
  obtain ⟨A, h1, h2⟩ := h
  refine ⟨A.setIfInBounds (q * 10 + i) z, blk_set h1 _ _, fun j x p' hp' hx => ?_⟩
  have hb := (Array.getElem?_eq_some_iff.1 (h2 q i p hp hi)).1
  rw [Array.getElem?_setIfInBounds]
  by_cases e : q * 10 + i = j * 10 + x
  · have ej : j = q := by omega
    have ex : x = i := by omega
    subst ej ex
    rw [hp] at hp'
    cases hp'
    rw [if_pos rfl, if_pos hb, if_pos (by omega), hz]
  · rw [if_neg e, h2 j x p' hp' hx]
    by_cases c : j < q ∨ (j = q ∧ x < i)
    · rw [if_pos c, if_pos (by omega)]
    · rw [if_neg c, if_neg (by omega)]
theorem Ms.next {w : World} {g a q : Nat} {cs : List CV} (h : Ms w g cs a q 8) : Ms w g cs a (q + 1) 0 := by
  obtain ⟨A, h1, h2⟩ := h
  refine ⟨A, h1, fun j x p hp hx => ?_⟩
  rw [h2 j x p hp hx]
  by_cases c : j < q ∨ (j = q ∧ x < 8)
  · rw [if_pos c, if_pos (by omega)]
  · rw [if_neg c]
    by_cases d : j < q + 1 ∨ (j = q + 1 ∧ x < 0)
    · rw [if_pos d]
      have hx8 : x = 8 ∨ x = 9 := by omega
      rcases hx8 with rfl | rfl <;> rfl
    · rw [if_neg d]
set_option maxRecDepth 100000 in
set_option maxHeartbeats 3200000 in
theorem markClients_any (g cap a : Nat) (cs : List CV) (w : World) (h : Ms w g cs a 0 0) (hn : cs.length ≤ 1000) (ha : a ≤ 1000) (ha0 : 0 < a) :
    Calls Try.prog 21 #[.slice (some ⟨g, 0, none⟩) cs.length cap, .int .i64 a] w fun e w' => e = .returned (.int .i64 ((a + 8 * cs.length : Nat) : Int)) ∧ Ms w' g cs a cs.length 0 ∧ w.grownBy w' (some g) := by
  have H : Hid (Ms w g cs a 0 0) := h
  clear h
  obtain ⟨n, HN⟩ : ∃ n, Hid (cs.length = n) := ⟨_, rfl⟩
  rw [HN.out] at hn
  rw [HN.out]
  go_enter Try.func21, Try.ntmps21
  go_wp2_with fail
  go_loopw [1, 5] (fun k i wr => ∃ q r : Nat, q ≤ n ∧ k = .int .i64 (r : Int) ∧ (0 < r ∧ r ≤ 10000) ∧ i = .int .i64 q ∧ Hid (r = a + 8 * q) ∧ Hid (Ms wr g cs a q 0) ∧ Hid (w.grownBy wr (some g))) (fun _ i _ => n - (intOf i).toNat)
  case atStart => exact ⟨0, a, by omega, rfl, by omega, rfl, (by show _ = _; omega), H, grown_refl _ _⟩
  case round =>
    clear H
    obtain ⟨q, r, hq, rfl, hr, rfl, HRR, HA, HG⟩ := hrel
    by_cases hlt : q < n
    · obtain ⟨p, hp⟩ := Rg.get_at (xs := cs) (k := q) (by rw [HN.out]; exact hlt)
      have hp0 : (0 : Int) ≤ (q : Int) := by omega
      have hp1 : (q : Int) < (n : Int) := by omega
      obtain ⟨c0, f0⟩ : wr.cell? ⟨g, q * 10, none⟩ = some (.int .i64 p.id) ∧ wr.frozen? ⟨g, q * 10, none⟩ = false := HA.out.old hp (x := 0) (by decide) (by decide) (u := .int .i64 p.id) rfl
      obtain ⟨c1, f1⟩ : wr.cell? ⟨g, q * 10 + 1, none⟩ = some (.int .i64 0) ∧ wr.frozen? ⟨g, q * 10 + 1, none⟩ = false := HA.out.old hp (x := 1) (by decide) (by decide) (u := .int .i64 0) rfl
      obtain ⟨c2, f2⟩ : wr.cell? ⟨g, q * 10 + 2, none⟩ = some (.bool false) ∧ wr.frozen? ⟨g, q * 10 + 2, none⟩ = false := HA.out.old hp (x := 2) (by decide) (by decide) (u := .bool false) rfl
      obtain ⟨c3, f3⟩ : wr.cell? ⟨g, q * 10 + 3, none⟩ = some (.int .i64 0) ∧ wr.frozen? ⟨g, q * 10 + 3, none⟩ = false := HA.out.old hp (x := 3) (by decide) (by decide) (u := .int .i64 0) rfl
      obtain ⟨c4, f4⟩ : wr.cell? ⟨g, q * 10 + 4, none⟩ = some (.int .i64 0) ∧ wr.frozen? ⟨g, q * 10 + 4, none⟩ = false := HA.out.old hp (x := 4) (by decide) (by decide) (u := .int .i64 0) rfl
      obtain ⟨c5, f5⟩ : wr.cell? ⟨g, q * 10 + 5, none⟩ = some (.int .i64 0) ∧ wr.frozen? ⟨g, q * 10 + 5, none⟩ = false := HA.out.old hp (x := 5) (by decide) (by decide) (u := .int .i64 0) rfl
      obtain ⟨c6, f6⟩ : wr.cell? ⟨g, q * 10 + 6, none⟩ = some (.int .i64 0) ∧ wr.frozen? ⟨g, q * 10 + 6, none⟩ = false := HA.out.old hp (x := 6) (by decide) (by decide) (u := .int .i64 0) rfl
      have HC : Hid (Ms (((((((wr.setCell ⟨g, q * 10, none⟩ (.int .i64 ((r : Int)))).setCell ⟨g, q * 10 + 1, none⟩ (.int .i64 ((r : Int) + 1))).setCell ⟨g, q * 10 + 2, none⟩ (.bool (((r : Int) + 1 + 1) % 3 == 0))).setCell ⟨g, q * 10 + 3, none⟩ (.int .i64 ((r : Int) + 1 + 1 + 1))).setCell ⟨g, q * 10 + 4, none⟩ (.int .i64 ((r : Int) + 1 + 1 + 1 + 1))).setCell ⟨g, q * 10 + 5, none⟩ (.int .i64 ((r : Int) + 1 + 1 + 1 + 1 + 1))).setCell ⟨g, q * 10 + 6, none⟩ (.int .i64 ((r : Int) + 1 + 1 + 1 + 1 + 1 + 1))) g cs a q 7 ∧ w.grownBy (((((((wr.setCell ⟨g, q * 10, none⟩ (.int .i64 ((r : Int)))).setCell ⟨g, q * 10 + 1, none⟩ (.int .i64 ((r : Int) + 1))).setCell ⟨g, q * 10 + 2, none⟩ (.bool (((r : Int) + 1 + 1) % 3 == 0))).setCell ⟨g, q * 10 + 3, none⟩ (.int .i64 ((r : Int) + 1 + 1 + 1))).setCell ⟨g, q * 10 + 4, none⟩ (.int .i64 ((r : Int) + 1 + 1 + 1 + 1))).setCell ⟨g, q * 10 + 5, none⟩ (.int .i64 ((r : Int) + 1 + 1 + 1 + 1 + 1))).setCell ⟨g, q * 10 + 6, none⟩ (.int .i64 ((r : Int) + 1 + 1 + 1 + 1 + 1 + 1))) (some g)) := ⟨(Ms.step (Ms.step (Ms.step (Ms.step (Ms.step (Ms.step (Ms.step HA.out hp (by decide) (by have := HRR.out; show Value.int .i64 _ = Value.int .i64 _; congr 1; omega)) hp (by decide) (by have := HRR.out; show Value.int .i64 _ = Value.int .i64 _; congr 1; omega)) hp (by decide) (by have := HRR.out; show Value.bool _ = Value.bool _; congr 3; omega)) hp (by decide) (by have := HRR.out; show Value.int .i64 _ = Value.int .i64 _; congr 1; omega)) hp (by decide) (by have := HRR.out; show Value.int .i64 _ = Value.int .i64 _; congr 1; omega)) hp (by decide) (by have := HRR.out; show Value.int .i64 _ = Value.int .i64 _; congr 1; omega)) hp (by decide) (by have := HRR.out; show Value.int .i64 _ = Value.int .i64 _; congr 1; omega)), (grown_trans (grown_trans (grown_trans (grown_trans (grown_trans (grown_trans (grown_trans HG.out (grown_set _ _)) (grown_set _ _)) (grown_set _ _)) (grown_set _ _)) (grown_set _ _)) (grown_set _ _)) (grown_set _ _))⟩
      have HT : Hid (∀ W : World, Calls Try.prog 41 #[.int .i64 ((r : Int) + 1 + 1 + 1 + 1 + 1 + 1 + 1)] W fun e w' => e = .returned (.string (mtext (r + 7))) ∧ Below W.heap.size W w') := fun W => by
        rw [show (r : Int) + 1 + 1 + 1 + 1 + 1 + 1 + 1 = ((r + 7 : Nat) : Int) by omega]; exact markText_any (r + 7) W (by omega) (by omega)
      have HP : Hid (cs[q]? = some p) := hp
      clear hp
      go_wp2_with fail
      refine (HT.out _).mono ?_
      rintro e u0 ⟨rfl, b0⟩
      generalize (((((((wr.setCell ⟨g, q * 10, none⟩ (.int .i64 ((r : Int)))).setCell ⟨g, q * 10 + 1, none⟩ (.int .i64 ((r : Int) + 1))).setCell ⟨g, q * 10 + 2, none⟩ (.bool (((r : Int) + 1 + 1) % 3 == 0))).setCell ⟨g, q * 10 + 3, none⟩ (.int .i64 ((r : Int) + 1 + 1 + 1))).setCell ⟨g, q * 10 + 4, none⟩ (.int .i64 ((r : Int) + 1 + 1 + 1 + 1))).setCell ⟨g, q * 10 + 5, none⟩ (.int .i64 ((r : Int) + 1 + 1 + 1 + 1 + 1))).setCell ⟨g, q * 10 + 6, none⟩ (.int .i64 ((r : Int) + 1 + 1 + 1 + 1 + 1 + 1))) = v0 at HC b0
      clear HA HG c0 f0 c1 f1 c2 f2 c3 f3 c4 f4 c5 f5 c6 f6
      have HD : Hid (Ms u0 g cs a q 7 ∧ w.grownBy u0 (some g)) := ⟨HC.out.1.below b0, grown_trans HC.out.2 (grown_of (r := some g) b0)⟩
      have HV : Hid (Value.string (mtext (r + 7)) = mkD a q p 7) := by show Value.string _ = Value.string _; rw [HRR.out]
      generalize mtext (r + 7) = mt at HV ⊢
      clear HC b0 HT
      obtain ⟨c7, f7⟩ := HD.out.1.old HP.out (x := 7) (by decide) (by decide) (u := .string ⟨#[]⟩) rfl
      have HE : Hid (Ms (u0.setCell ⟨g, q * 10 + 7, none⟩ (.string mt)) g cs a (q + 1) 0 ∧ w.grownBy (u0.setCell ⟨g, q * 10 + 7, none⟩ (.string mt)) (some g)) := ⟨Ms.next (HD.out.1.step HP.out (by decide) HV.out), grown_trans HD.out.2 (grown_set _ _)⟩
      have c8 := (HD.out.1.old HP.out (x := 8) (by decide) (by decide) (u := .slice p.ra 0 0) rfl).1
      have c9 := (HD.out.1.old HP.out (x := 9) (by decide) (by decide) (u := .slice p.ca 0 0) rfl).1
      clear HD HV
      go_wp2_with (first | (go_at_call 42; refine (markReply_nil _ _ _ _).mono ?_; rintro e w3 ⟨rfl, rfl⟩) | (go_at_call 43; refine (markAnswer_nil _ _ _ _).mono ?_; rintro e w3 ⟨rfl, rfl⟩))
      exact ⟨⟨q + 1, r + 8, by omega, by go_num, by have := HRR.out; omega, by go_num, (by show _ = _; have := HRR.out; omega), HE.out.1, HE.out.2⟩, by simp [intOf]; omega⟩
    · obtain rfl : q = n := by omega
      have HE : Hid ((r : Int) = ((a + 8 * q : Nat) : Int)) := by show _ = _; rw [HRR.out]
      go_wp2_with fail
      go_ret
      exact ⟨ret_i HE.out, HA.out, HG.out⟩
set_option maxRecDepth 100000 in
set_option maxHeartbeats 3200000 in
theorem heldClients_any (g cap a : Nat) (cs : List CV) (w : World) (h : Ms w g cs a cs.length 0) (hn : cs.length ≤ 1000) (ha : a ≤ 1000) (ha0 : 0 < a) :
    Calls Try.prog 24 #[.slice (some ⟨g, 0, none⟩) cs.length cap, .int .i64 a] w fun e w' => e = .returned (.int .i64 ((a + 8 * cs.length : Nat) : Int)) ∧ Below w.heap.size w w' := by
  have HU : Hid (∀ W, Below w.heap.size w W → Ms W g cs a cs.length 0) := fun W hW => h.below hW
  clear h
  obtain ⟨n, HN⟩ : ∃ n, Hid (cs.length = n) := ⟨_, rfl⟩
  rw [HN.out] at hn HU
  rw [HN.out]
  go_enter Try.func24, Try.ntmps24
  go_wp2_with fail
  go_loopw [1, 5] (fun k i wr => ∃ q r : Nat, q ≤ n ∧ k = .int .i64 (r : Int) ∧ (0 < r ∧ r ≤ 10000) ∧ i = .int .i64 q ∧ Hid (r = a + 8 * q) ∧ Hid (Below w.heap.size w wr)) (fun _ i _ => n - (intOf i).toNat)
  case atStart => exact ⟨0, a, by omega, rfl, by omega, rfl, (by show _ = _; omega), Below.refl _ _⟩
  case round =>
    obtain ⟨q, r, hq, rfl, hr, rfl, HRR, HB⟩ := hrel
    by_cases hlt : q < n
    · obtain ⟨p, hp⟩ := Rg.get_at (xs := cs) (k := q) (by rw [HN.out]; exact hlt)
      have HP : Hid (cs[q]? = some p) := hp
      have hp0 : (0 : Int) ≤ (q : Int) := by omega
      have hp1 : (q : Int) < (n : Int) := by omega
      clear hp
      have c0 : wr.cell? ⟨g, q * 10, none⟩ = some (.int .i64 ((r : Int))) := ((HU.out wr HB.out).cell HP.out (x := 0) (by decide)).1.trans (by rw [if_pos (by omega)]; refine congrArg some ?_; have := HRR.out; show Value.int .i64 _ = Value.int .i64 _; congr 1; omega)
      have e0 : (((r : Int)) != ((r : Int))) = false := by simp
      have c1 : wr.cell? ⟨g, q * 10 + 1, none⟩ = some (.int .i64 ((r : Int) + 1)) := ((HU.out wr HB.out).cell HP.out (x := 1) (by decide)).1.trans (by rw [if_pos (by omega)]; refine congrArg some ?_; have := HRR.out; show Value.int .i64 _ = Value.int .i64 _; congr 1; omega)
      have e1 : (((r : Int) + 1) != ((r : Int) + 1)) = false := by simp
      have c2 : wr.cell? ⟨g, q * 10 + 2, none⟩ = some (.bool (((r : Int) + 1 + 1) % 3 == 0)) := ((HU.out wr HB.out).cell HP.out (x := 2) (by decide)).1.trans (by rw [if_pos (by omega)]; refine congrArg some ?_; have := HRR.out; show Value.bool _ = Value.bool _; congr 3; omega)
      have e2 : ((((r : Int) + 1 + 1) % 3 == 0) != (((r : Int) + 1 + 1) % 3 == 0)) = false := by simp
      have c3 : wr.cell? ⟨g, q * 10 + 3, none⟩ = some (.int .i64 ((r : Int) + 1 + 1 + 1)) := ((HU.out wr HB.out).cell HP.out (x := 3) (by decide)).1.trans (by rw [if_pos (by omega)]; refine congrArg some ?_; have := HRR.out; show Value.int .i64 _ = Value.int .i64 _; congr 1; omega)
      have e3 : (((r : Int) + 1 + 1 + 1) != ((r : Int) + 1 + 1 + 1)) = false := by simp
      have c4 : wr.cell? ⟨g, q * 10 + 4, none⟩ = some (.int .i64 ((r : Int) + 1 + 1 + 1 + 1)) := ((HU.out wr HB.out).cell HP.out (x := 4) (by decide)).1.trans (by rw [if_pos (by omega)]; refine congrArg some ?_; have := HRR.out; show Value.int .i64 _ = Value.int .i64 _; congr 1; omega)
      have e4 : (((r : Int) + 1 + 1 + 1 + 1) != ((r : Int) + 1 + 1 + 1 + 1)) = false := by simp
      have c5 : wr.cell? ⟨g, q * 10 + 5, none⟩ = some (.int .i64 ((r : Int) + 1 + 1 + 1 + 1 + 1)) := ((HU.out wr HB.out).cell HP.out (x := 5) (by decide)).1.trans (by rw [if_pos (by omega)]; refine congrArg some ?_; have := HRR.out; show Value.int .i64 _ = Value.int .i64 _; congr 1; omega)
      have e5 : (((r : Int) + 1 + 1 + 1 + 1 + 1) != ((r : Int) + 1 + 1 + 1 + 1 + 1)) = false := by simp
      have c6 : wr.cell? ⟨g, q * 10 + 6, none⟩ = some (.int .i64 ((r : Int) + 1 + 1 + 1 + 1 + 1 + 1)) := ((HU.out wr HB.out).cell HP.out (x := 6) (by decide)).1.trans (by rw [if_pos (by omega)]; refine congrArg some ?_; have := HRR.out; show Value.int .i64 _ = Value.int .i64 _; congr 1; omega)
      have e6 : (((r : Int) + 1 + 1 + 1 + 1 + 1 + 1) != ((r : Int) + 1 + 1 + 1 + 1 + 1 + 1)) = false := by simp
      have HT : Hid (∀ W : World, Calls Try.prog 41 #[.int .i64 ((r : Int) + 1 + 1 + 1 + 1 + 1 + 1 + 1)] W fun e w' => e = .returned (.string (mtext (r + 7))) ∧ Below W.heap.size W w') := fun W => by
        rw [show (r : Int) + 1 + 1 + 1 + 1 + 1 + 1 + 1 = ((r + 7 : Nat) : Int) by omega]; exact markText_any (r + 7) W (by omega) (by omega)
      have HV : Hid (Value.string (mtext (r + 7)) = mkD a q p 7) := by show Value.string _ = Value.string _; rw [HRR.out]
      have n1 : ((mtext (r + 7)).toList == (mtext (r + 7)).toList) = true := by simp
      have nn1 : ((mtext (r + 7)).toList != (mtext (r + 7)).toList) = false := by simp
      generalize mtext (r + 7) = mt1 at HT HV n1 nn1
      have cs7 : wr.cell? ⟨g, q * 10 + 7, none⟩ = some (.string mt1) := ((HU.out wr HB.out).cell HP.out (x := 7) (by decide)).1.trans (by rw [if_pos (by omega)]; exact congrArg some HV.out.symm)
      go_wp2
      obtain ⟨X1, hX1, W1, QI0, QO0⟩ := Qc.klass wr
      have QI1 : Hid (∀ w', Below wr.heap.size wr w' → ∃ x, w' = W1 x) := QI0
      have QO1 : Hid (∀ x, Below wr.heap.size wr (W1 x)) := QO0
      clear QI0 QO0
      have y1 := Qc.cell_all QO1.out cs7
      refine Qc.region_class (W := W1) (by kernel_rfl) (by kernel_rfl) (QI1.out _ Qc.from_drew) ?_
      repeat (go_big_quiet_step (first | (go_at_call 41; refine (HT.out _).mono ?_; rintro e w2 ⟨rfl, b2⟩; exact ⟨rfl, Qc.back QI1.out QO1.out b2⟩)))
      refine wpQuiet_nil ?_
      rintro _ ⟨xq, rfl⟩
      have G1 : Hid (Below w.heap.size w (W1 xq)) := HB.out.trans ((QO1.out xq).mono HB.out.size)
      generalize W1 xq = w1 at G1 ⊢
      clear QI1 QO1 y1 cs7 c0 e0 c1 e1 c2 e2 c3 e3 c4 e4 c5 e5 c6 e6
      have c8 : w1.cell? ⟨g, q * 10 + 8, none⟩ = some (.slice p.ra 0 0) := ((HU.out w1 G1.out).cell HP.out (x := 8) (by decide)).1.trans (by rw [if_pos (by omega)]; rfl)
      have c9 : w1.cell? ⟨g, q * 10 + 9, none⟩ = some (.slice p.ca 0 0) := ((HU.out w1 G1.out).cell HP.out (x := 9) (by decide)).1.trans (by rw [if_pos (by omega)]; rfl)
      go_wp2_with (first | (go_at_call 48; refine (heldReply_nil _ _ _ _).mono ?_; rintro e w3 ⟨rfl, rfl⟩) | (go_at_call 49; refine (heldAnswer_nil _ _ _ _).mono ?_; rintro e w3 ⟨rfl, rfl⟩))
      exact ⟨⟨q + 1, r + 8, by omega, by go_num, by have := HRR.out; omega, by go_num, (by show _ = _; have := HRR.out; omega), G1⟩, by simp [intOf]; omega⟩
    · obtain rfl : q = n := by omega
      have HE : Hid ((r : Int) = ((a + 8 * q : Nat) : Int)) := by show _ = _; rw [HRR.out]
      go_wp2
      go_ret
      exact ⟨ret_i HE.out, HB.out⟩
end Go.Proofs.Ytdhmmbbdckahmaa.Wn
