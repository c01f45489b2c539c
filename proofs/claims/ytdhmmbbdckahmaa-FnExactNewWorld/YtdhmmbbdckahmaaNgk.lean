/- A new group is marked and held. -/
import Derived.Test.YtdhmmbbdckahmaaNgj
namespace Go.Proofs.Ytdhmmbbdckahmaa.Ng
open Go.RowKit Go.Proofs.Ytdhmmbbdckahmaa.Rg Go.Proofs.Ytdhmmbbdckahmaa.Tm Go.Proofs.Ytdhmmbbdckahmaa.Nr Go.Proofs.Ytdhmmbbdckahmaa.Is
open Go.Proofs.Ytdhmmbbdckahmaa.So hiding bel_new
open Go.Proofs.Ytdhmmbbdckahmaa.Sl (nth)
open Go.Proofs.Ytdhmmbbdckahmaa.Qm (inB)
open Go.Proofs.Ytdhmmbbdckahmaa.Rr (grown_set grown_trans grown_refl grown_alloc)
def HeldI (w : World) (af : Option Addr) (a m : Nat) : Prop := m = 0 ∨ ∃ g f, af = some ⟨g, 0, none⟩ ∧ MI w g m f ∧ ∀ j, j < m → f j = ((a + j : Nat) : Int)
def HeldQ (w : World) (ar : Option Addr) (a : Nat) (ps : List RV) : Prop := ps.length = 0 ∨ ∃ g, ar = some ⟨g, 0, none⟩ ∧ HQs w g a ps
theorem HeldI.below {w w' : World} {af : Option Addr} {a m : Nat} (h : HeldI w af a m) (hb : Below w.heap.size w w') : HeldI w' af a m := by
  rcases h with h | ⟨g, f, h1, h2, h3⟩
  · exact .inl h
  · exact .inr ⟨g, f, h1, h2.below hb, h3⟩
theorem HeldQ.below {w w' : World} {ar : Option Addr} {a : Nat} {ps : List RV} (h : HeldQ w ar a ps) (hb : Below w.heap.size w w') : HeldQ w' ar a ps := by
  rcases h with h | ⟨g, h1, h2⟩
  · exact .inl h
  · exact .inr ⟨g, h1, h2.below hb⟩
theorem markI_own (af : Option Addr) (kf a : Nat) (ys : List Int) (B : Nat) (w : World) (hf : OwnI w B (.slice af ys.length kf) ys) (hB : B ≤ w.heap.size) (hy : ys.length ≤ 1048576) (ha : a ≤ 1000) :
    Calls Try.prog 9 #[.slice af ys.length kf, .int .i64 a] w fun e w' => e = .returned (.int .i64 ((a + ys.length : Nat) : Int)) ∧ HeldI w' af a ys.length ∧ Below B w w' ∧ ∀ (k : Nat) (cs : Array Value) (t : TypeId), w.heap[k]? = some (.cells cs t (0, 0)) → t ≠ 3 → w'.heap[k]? = some (.cells cs t (0, 0)) := by
  by_cases h0 : ys.length = 0
  · rw [h0]
    refine (markInt_nil (a : Int) af kf w).mono ?_
    rintro e w' ⟨rfl, rfl⟩
    exact ⟨rfl, .inl rfl, Below.refl _ _, fun _ _ _ h _ => h⟩
  · obtain ⟨g, cap, he⟩ := OwnI.some hf (fun e => h0 (by injection e))
    injection he with e1 _ e3
    subst e1
    obtain ⟨hbk, _, hg⟩ := BlkI.of hf
    obtain ⟨cur, k1, _, _, _, k5⟩ := hbk
    refine (markInts g ys.length kf a (fun i => nth ys i) w ⟨cur, k1, k5⟩ hy ha).mono ?_
    rintro e w' ⟨rfl, ⟨f, m1, m2⟩, gr⟩
    refine ⟨rfl, .inr ⟨g, f, rfl, m1, m2⟩, grown_bel gr hB hg, fun k cs t hk ht => (gr.block k (Array.getElem?_eq_some_iff.1 hk).1 fun e => ?_).trans hk⟩
    injection e with e
    subst e
    rw [k1] at hk
    injection hk with hk
    injection hk with _ hk _
    exact ht hk.symm
theorem MQ.of {w : World} {B g n cap : Nat} {ps : List RV} (h : OwnQ w B (.slice (some ⟨g, 0, none⟩) n cap) ps) : (∃ F, MQ w g F ps) ∧ B ≤ g := by
  obtain ⟨hl, h⟩ := h
  rcases h with ⟨h, _⟩ | ⟨g', cap', cur, he, hB, hg, hc, _, hs, htk⟩
  · cases h
  · cases he
    refine ⟨⟨fun i => match ps[i]? with | some p => (p.id, p.n, 0, true) | none => (0, 0, 0, false), cur, hg, fun i p hi => ?_⟩, hB⟩
    have hil := lt_at hi
    have key : ∀ j u, j < 8 → (clQ p)[j]? = some u → cur[i * 8 + j]? = some u := fun j u hj hu => by
      have h1 := atQ ps i p j hi hj
      rw [← htk, List.getElem?_take, if_pos (by omega)] at h1
      rw [← Array.getElem?_toList, h1, hu]
    simp only [hi]
    exact ⟨key 0 _ (by decide) rfl, key 1 _ (by decide) rfl, key 2 _ (by decide) rfl, key 3 _ (by decide) rfl, key 4 _ (by decide) rfl, key 5 _ (by decide) rfl, key 6 _ (by decide) rfl, key 7 _ (by decide) rfl⟩
set_option maxHeartbeats 400000 in
theorem markRps_nil (a : Int) (ad : Option Addr) (cap : Nat) (w : World) : Calls Try.prog 38 #[.slice ad 0 cap, .int .i64 a] w fun e w' => e = .returned (.int .i64 a) ∧ w = w' := by
  go_enter Try.func38, Try.ntmps38
  go_wp2_with fail
  go_loopw [1, 5] (fun k i wr => k = .int .i64 a ∧ i = .int .i64 0 ∧ wr = w) (fun _ _ _ => 0)
  case atStart => exact ⟨rfl, rfl, rfl⟩
  case round =>
    obtain ⟨rfl, rfl, rfl⟩ := hrel
    go_wp2
    go_ret
    exact ⟨rfl, rfl⟩
set_option maxHeartbeats 400000 in
theorem heldRps_nil (a : Int) (ad : Option Addr) (cap : Nat) (w : World) : Calls Try.prog 45 #[.slice ad 0 cap, .int .i64 a] w fun e w' => e = .returned (.int .i64 a) ∧ w = w' := by
  go_enter Try.func45, Try.ntmps45
  go_wp2_with fail
  go_loopw [1, 5] (fun k i wr => k = .int .i64 a ∧ i = .int .i64 0 ∧ wr = w) (fun _ _ _ => 0)
  case atStart => exact ⟨rfl, rfl, rfl⟩
  case round =>
    obtain ⟨rfl, rfl, rfl⟩ := hrel
    go_wp2
    go_ret
    exact ⟨rfl, rfl⟩
theorem ImpP.hu {B : Nat} {w : World} {n : Int} {ps : List RV} (h : ImpP B w n ps) : ∀ (k : Nat) (p : RV), ps[k]? = some p → HU B w p := fun k p hp => by
  obtain ⟨_, _, h3, gs, gc, h4, h5, h6, h7, h8⟩ := h k p hp
  exact ⟨gs, gc, ⟨h4, h3, h5, h6⟩, ⟨_, h7⟩, ⟨_, h8⟩⟩
theorem markQ_own (ar : Option Addr) (kr a : Nat) (ps : List RV) (B : Nat) (w : World) (hq : OwnQ w B (.slice ar ps.length kr) ps) (hu : ∀ (k : Nat) (p : RV), ps[k]? = some p → HU B w p) (ap : Apart ps) (hl : ps.length ≤ 7) (ha : a ≤ 100) (ha0 : 0 < a) :
    Calls Try.prog 38 #[.slice ar ps.length kr, .int .i64 a] w fun e w' => e = .returned (.int .i64 ((a + 36 * ps.length : Nat) : Int)) ∧ HeldQ w' ar a ps ∧ Fm B w w' := by
  by_cases h0 : ps.length = 0
  · rw [h0]
    refine (markRps_nil (a : Int) ar kr w).mono ?_
    rintro e w' ⟨rfl, rfl⟩
    exact ⟨rfl, .inl h0, Fm.refl _ _⟩
  · obtain ⟨p, hp⟩ := Rg.get_at (xs := ps) (k := 0) (by omega)
    obtain ⟨g, cap, cur, he, _⟩ := hq.at hp
    injection he with e1 _ e3
    subst e1
    obtain ⟨⟨F, hF⟩, hB⟩ := MQ.of hq
    refine (markReps B g kr a ps F w hF hu ap hB hl ha ha0).mono ?_
    rintro e w' ⟨rfl, F', R⟩
    exact ⟨rfl, .inr ⟨g, rfl, ⟨F', R.m, R.f⟩, fun k p hp => R.h k p (lt_at hp) hp⟩, R.fm⟩
theorem heldI_own (af : Option Addr) (kf a m : Nat) (w : World) (h : HeldI w af a m) (hy : m ≤ 1048576) (ha : a ≤ 1000) :
    Calls Try.prog 44 #[.slice af m kf, .int .i64 a] w fun e w' => e = .returned (.int .i64 ((a + m : Nat) : Int)) ∧ Below w.heap.size w w' := by
  rcases h with rfl | ⟨g, f, rfl, h1, h2⟩
  · refine (heldInt_nil (a : Int) af kf w).mono ?_
    rintro e w' ⟨rfl, rfl⟩
    exact ⟨rfl, Below.refl _ _⟩
  · exact heldInts g m kf a f w h1 h2 hy ha
theorem heldQ_own (ar : Option Addr) (kr a : Nat) (ps : List RV) (w : World) (h : HeldQ w ar a ps) (hl : ps.length ≤ 7) (ha : a ≤ 100) (ha0 : 0 < a) :
    Calls Try.prog 45 #[.slice ar ps.length kr, .int .i64 a] w fun e w' => e = .returned (.int .i64 ((a + 36 * ps.length : Nat) : Int)) ∧ Below w.heap.size w w' := by
  rcases h with h0 | ⟨g, rfl, h1⟩
  · rw [h0]
    refine (heldRps_nil (a : Int) ar kr w).mono ?_
    rintro e w' ⟨rfl, rfl⟩
    exact ⟨rfl, Below.refl _ _⟩
  · exact heldReps g kr a ps w h1 hl ha ha0
set_option maxRecDepth 100000 in
set_option maxHeartbeats 3200000 in
theorem markGroup_new (n : Int) (ys : List Int) (af ar : Option Addr) (kf kr : Nat) (ps : List RV) (B : Nat) (w : World) (hf : OwnI w B (.slice af ys.length kf) ys) (hq : OwnQ w B (.slice ar ps.length kr) ps) (hp : ImpP B w n ps) (ap : Apart ps) (hy : ys.length ≤ 2) (hl : ps.length ≤ 7) (hB : B ≤ w.heap.size) :
    Calls Try.prog 20 #[.agg #[.int .i64 n, .slice af ys.length kf, .slice ar ps.length kr, .slice none 0 0, .slice none 0 0], .int .i64 1] w fun e w' => e = .returned (.int .i64 ((1 + ys.length + 36 * ps.length : Nat) : Int)) ∧ (HeldI w' af 1 ys.length ∧ HeldQ w' ar (1 + ys.length) ps) ∧ Below B w w' ∧ ∀ (k : Nat) (cs : Array Value), w.heap[k]? = some (.cells cs 27 (0, 0)) → w'.heap[k]? = some (.cells cs 27 (0, 0)) := by
  have HBX : Hid ((w.alloc (.cells #[.int .i64 n, .slice af ys.length kf, .slice ar ps.length kr, .slice none 0 0, .slice none 0 0] 27)).heap[w.heap.size]? = some (.cells #[.int .i64 n, .slice af ys.length kf, .slice ar ps.length kr, .slice none 0 0, .slice none 0 0] 27 (0, 0))) := blk_new _ _ _
  have HB0 : Hid (Below B w (w.alloc (.cells #[.int .i64 n, .slice af ys.length kf, .slice ar ps.length kr, .slice none 0 0, .slice none 0 0] 27)) ∧ ∀ (k : Nat) (cs : Array Value), w.heap[k]? = some (.cells cs 27 (0, 0)) → (w.alloc (.cells #[.int .i64 n, .slice af ys.length kf, .slice ar ps.length kr, .slice none 0 0, .slice none 0 0] 27)).heap[k]? = some (.cells cs 27 (0, 0))) := ⟨(Below.refl _ _).alloc hB _, fun k cs hk => ((bel_new w _).block k (Array.getElem?_eq_some_iff.1 hk).1).trans hk⟩
  have HMI : Hid (Calls Try.prog 9 #[.slice af ys.length kf, .int .i64 1] (w.alloc (.cells #[.int .i64 n, .slice af ys.length kf, .slice ar ps.length kr, .slice none 0 0, .slice none 0 0] 27)) fun e w' => e = .returned (.int .i64 ((1 + ys.length : Nat) : Int)) ∧ HeldI w' af 1 ys.length ∧ Below B (w.alloc (.cells #[.int .i64 n, .slice af ys.length kf, .slice ar ps.length kr, .slice none 0 0, .slice none 0 0] 27)) w' ∧ ∀ (k : Nat) (cs : Array Value) (t : TypeId), (w.alloc (.cells #[.int .i64 n, .slice af ys.length kf, .slice ar ps.length kr, .slice none 0 0, .slice none 0 0] 27)).heap[k]? = some (.cells cs t (0, 0)) → t ≠ 3 → w'.heap[k]? = some (.cells cs t (0, 0))) := markI_own af kf 1 ys B _ (ownI_below hf (bel_new _ _)) (by rw [size_new]; omega) (by omega) (by decide)
  have HMQ : Hid (∀ W, (∀ (k : Nat) (cs : Array Value) (t : TypeId), (w.alloc (.cells #[.int .i64 n, .slice af ys.length kf, .slice ar ps.length kr, .slice none 0 0, .slice none 0 0] 27)).heap[k]? = some (.cells cs t (0, 0)) → t ≠ 3 → W.heap[k]? = some (.cells cs t (0, 0))) → Calls Try.prog 38 #[.slice ar ps.length kr, .int .i64 ((1 + ys.length : Nat) : Int)] W fun e w' => e = .returned (.int .i64 ((1 + ys.length + 36 * ps.length : Nat) : Int)) ∧ HeldQ w' ar (1 + ys.length) ps ∧ Fm B W w') := fun W hW => by
    refine markQ_own ar kr (1 + ys.length) ps B W ((hq.below (bel_new w (.cells #[.int .i64 n, .slice af ys.length kf, .slice ar ps.length kr, .slice none 0 0, .slice none 0 0] 27))).kept fun k e => ?_) (fun k p hk => ?_) ap hl (by omega) (by omega)
    · obtain ⟨cs, hc⟩ := ownQ_kind (hq.below (bel_new w (.cells #[.int .i64 n, .slice af ys.length kf, .slice ar ps.length kr, .slice none 0 0, .slice none 0 0] 27))) e
      rw [hc]
      exact hW k cs _ hc (by decide)
    · obtain ⟨gs, gc, e, ⟨f, m⟩, ⟨h, c⟩⟩ := (hp.below (bel_new w (.cells #[.int .i64 n, .slice af ys.length kf, .slice ar ps.length kr, .slice none 0 0, .slice none 0 0] 27))).hu k p hk
      refine ⟨gs, gc, e, ⟨f, m.kept ?_⟩, ⟨h, c.kept ?_⟩⟩
      · obtain ⟨A, a1, _⟩ := m
        rw [a1]
        exact hW _ _ _ a1 (by decide)
      · obtain ⟨A, a1, _⟩ := c
        rw [a1]
        exact hW _ _ _ a1 (by decide)
  clear hf hq hp ap
  generalize ((1 + ys.length + 36 * ps.length : Nat) : Int) = t2 at HMQ ⊢
  generalize ((1 + ys.length : Nat) : Int) = t1 at HMI HMQ
  go_enter Try.func20, Try.ntmps20
  go_upto_region 1 with fail
  generalize w.alloc (.cells #[.int .i64 n, .slice af ys.length kf, .slice ar ps.length kr, .slice none 0 0, .slice none 0 0] 27) = wb at HBX HB0 HMI HMQ ⊢
  generalize w.heap.size = bx at HBX ⊢
  have x1 := (blk_cell HBX.out 1 (x := .slice af ys.length kf) rfl).1
  go_upto_region 2 with (go_at_call 9; refine HMI.out.mono ?_; rintro e w1 ⟨rfl, i1, b1, k1⟩)
  have H2 := HMQ.out w1 k1
  have HX1 : Hid (w1.heap[bx]? = some (.cells #[.int .i64 n, .slice af ys.length kf, .slice ar ps.length kr, .slice none 0 0, .slice none 0 0] 27 (0, 0))) := k1 _ _ _ HBX.out (by decide)
  have HI1 : Hid (HeldI w1 af 1 ys.length) := i1
  have HB1 : Hid (Below B w w1 ∧ ∀ (k : Nat) (cs : Array Value), w.heap[k]? = some (.cells cs 27 (0, 0)) → w1.heap[k]? = some (.cells cs 27 (0, 0))) := ⟨HB0.out.1.trans b1, fun k cs hk => k1 _ _ _ (HB0.out.2 k cs hk) (by decide)⟩
  clear i1 b1 k1 x1 HMI HMQ HBX HB0
  have x2 := (blk_cell HX1.out 2 (x := .slice ar ps.length kr) rfl).1
  go_upto_region 3 with (go_at_call 38; refine H2.mono ?_; rintro e w2 ⟨rfl, q2, f2⟩)
  have HX2 : Hid (w2.heap[bx]? = some (.cells #[.int .i64 n, .slice af ys.length kf, .slice ar ps.length kr, .slice none 0 0, .slice none 0 0] 27 (0, 0))) := f2.k _ _ _ (by decide) (by decide) (by decide) HX1.out
  have HI2 : Hid (HeldI w2 af 1 ys.length) := by
    rcases HI1.out with h | ⟨g, f, h1, ⟨A, a1, a2⟩, h3⟩
    · exact .inl h
    · exact .inr ⟨g, f, h1, ⟨A, f2.k _ _ _ (by decide) (by decide) (by decide) a1, a2⟩, h3⟩
  have HQ2 : Hid (HeldQ w2 ar (1 + ys.length) ps) := q2
  have HB2 : Hid (Below B w w2 ∧ ∀ (k : Nat) (cs : Array Value), w.heap[k]? = some (.cells cs 27 (0, 0)) → w2.heap[k]? = some (.cells cs 27 (0, 0))) := ⟨HB1.out.1.trans f2.b, fun k cs hk => f2.k _ _ _ (by decide) (by decide) (by decide) (HB1.out.2 k cs hk)⟩
  clear q2 f2 x2 H2 HX1 HI1 HB1
  have x3 := (blk_cell HX2.out 3 (x := .slice none 0 0) rfl).1
  have x4 := (blk_cell HX2.out 4 (x := .slice none 0 0) rfl).1
  go_wp2_with (first | (go_at_call 39; refine (markPar_nil _ _ _ _).mono ?_; rintro e w' ⟨rfl, rfl⟩) | (go_at_call 40; refine (markMsg_nil _ _ _ _).mono ?_; rintro e w' ⟨rfl, rfl⟩))
  go_ret
  exact ⟨rfl, ⟨HI2.out, HQ2.out⟩, HB2.out⟩
set_option maxRecDepth 100000 in
set_option maxHeartbeats 3200000 in
theorem heldGroup_new (n : Int) (m : Nat) (af ar : Option Addr) (kf kr : Nat) (ps : List RV) (w : World) (hf : HeldI w af 1 m) (hq : HeldQ w ar (1 + m) ps) (hy : m ≤ 2) (hl : ps.length ≤ 7) :
    Calls Try.prog 23 #[.agg #[.int .i64 n, .slice af m kf, .slice ar ps.length kr, .slice none 0 0, .slice none 0 0], .int .i64 1] w fun e w' => e = .returned (.int .i64 ((1 + m + 36 * ps.length : Nat) : Int)) ∧ Below w.heap.size w w' := by
  have HC : Hid (∀ W, Below (w.alloc (.cells #[.int .i64 n, .slice af m kf, .slice ar ps.length kr, .slice none 0 0, .slice none 0 0] 27)).heap.size (w.alloc (.cells #[.int .i64 n, .slice af m kf, .slice ar ps.length kr, .slice none 0 0, .slice none 0 0] 27)) W → (W.cell? ⟨w.heap.size, 1, none⟩ = some (.slice af m kf) ∧ W.cell? ⟨w.heap.size, 2, none⟩ = some (.slice ar ps.length kr) ∧ W.cell? ⟨w.heap.size, 3, none⟩ = some (.slice none 0 0) ∧ W.cell? ⟨w.heap.size, 4, none⟩ = some (.slice none 0 0)) ∧ Below w.heap.size w W) := fun W hW => by
    have h1 := (hW.block w.heap.size (by simp)).trans (heap_alloc_new w _)
    exact ⟨⟨(blk_cell h1 1 rfl).1, (blk_cell h1 2 rfl).1, (blk_cell h1 3 rfl).1, (blk_cell h1 4 rfl).1⟩, (bel_new w _).trans (hW.mono (by simp))⟩
  have HI : Hid (∀ W, Below w.heap.size w W → Calls Try.prog 44 #[.slice af m kf, .int .i64 1] W fun e w' => e = .returned (.int .i64 ((1 + m : Nat) : Int)) ∧ Below W.heap.size W w') := fun W hW => heldI_own af kf 1 m W (hf.below hW) (by omega) (by decide)
  have HQ : Hid (∀ W, Below w.heap.size w W → Calls Try.prog 45 #[.slice ar ps.length kr, .int .i64 ((1 + m : Nat) : Int)] W fun e w' => e = .returned (.int .i64 ((1 + m + 36 * ps.length : Nat) : Int)) ∧ Below W.heap.size W w') := fun W hW => heldQ_own ar kr (1 + m) ps W (hq.below hW) hl (by omega) (by omega)
  have n1 : ¬ (((1 + m : Nat) : Int) < 0) := by omega
  have n2 : ¬ (((1 + m + 36 * ps.length : Nat) : Int) < 0) := by omega
  clear hf hq
  generalize ((1 + m + 36 * ps.length : Nat) : Int) = t2 at HQ n2 ⊢
  generalize ((1 + m : Nat) : Int) = t1 at HI HQ n1 ⊢
  go_enter Try.func23, Try.ntmps23
  go_upto_region 1 with fail
  generalize w.alloc (.cells #[.int .i64 n, .slice af m kf, .slice ar ps.length kr, .slice none 0 0, .slice none 0 0] 27) = wb at HC ⊢
  obtain ⟨⟨x1, x2, x3, x4⟩, B0⟩ := HC.out wb (Below.refl _ _)
  have H1 := HI.out wb B0
  clear B0
  go_upto_region 2 with (go_at_call 44; refine H1.mono ?_; rintro e w1 ⟨rfl, b1⟩)
  have D1 : Hid (Below wb.heap.size wb w1) := b1
  clear b1 x1 x2 x3 x4 H1
  obtain ⟨⟨x1, x2, x3, x4⟩, B0⟩ := HC.out w1 D1.out
  have H2 := HQ.out w1 B0
  clear B0
  go_upto_region 5 with (go_at_call 45; refine H2.mono ?_; rintro e w2 ⟨rfl, b2⟩)
  have D2 : Hid (Below wb.heap.size wb w2) := D1.out.trans (b2.mono D1.out.size)
  clear b2 x1 x2 x3 x4 H2 D1
  obtain ⟨⟨x1, x2, x3, x4⟩, B0⟩ := HC.out w2 D2.out
  have HB2 : Hid (Below w.heap.size w w2) := B0
  clear B0 D2 HC
  go_wp2_with (first | (go_at_call 46; refine (heldPar_nil _ _ _ _).mono ?_; rintro e w' ⟨rfl, rfl⟩) | (go_at_call 47; refine (heldMsg_nil _ _ _ _).mono ?_; rintro e w' ⟨rfl, rfl⟩))
  go_ret
  exact ⟨rfl, HB2.out⟩
end Go.Proofs.Ytdhmmbbdckahmaa.Ng
