/- A new world is marked; its marks are held against. -/
import Derived.Test.YtdhmmbbdckahmaaWnm
namespace Go.Proofs.Ytdhmmbbdckahmaa.Wn
open Go.RowKit Go.Proofs.Ytdhmmbbdckahmaa.Rg Go.Proofs.Ytdhmmbbdckahmaa.Nr Go.Proofs.Ytdhmmbbdckahmaa.Is Go.Proofs.Ytdhmmbbdckahmaa.Ng
open Go.Proofs.Ytdhmmbbdckahmaa.Rr (grown_set grown_trans grown_refl grown_alloc)
/-- Kinds that a group's marks leave alone. -/
def Kd (t : TypeId) : Prop := t ≠ 3 ∧ t ≠ 65 ∧ t ≠ 112 ∧ t ≠ 106
set_option maxRecDepth 100000 in
set_option maxHeartbeats 3200000 in
theorem markGroup_kinds (n : Int) (ys : List Int) (af ar : Option Addr) (kf kr : Nat) (ps : List RV) (B : Nat) (w : World) (hf : OwnI w B (.slice af ys.length kf) ys) (hq : OwnQ w B (.slice ar ps.length kr) ps) (hp : ImpP B w n ps) (ap : Apart ps) (hy : ys.length ≤ 2) (hl : ps.length ≤ 7) (hB : B ≤ w.heap.size) :
    Calls Try.prog 20 #[.agg #[.int .i64 n, .slice af ys.length kf, .slice ar ps.length kr, .slice none 0 0, .slice none 0 0], .int .i64 1] w fun e w' => e = .returned (.int .i64 ((1 + ys.length + 36 * ps.length : Nat) : Int)) ∧ (HeldI w' af 1 ys.length ∧ HeldQ w' ar (1 + ys.length) ps) ∧ Below B w w' ∧ ∀ (t0 : TypeId), Kd t0 → ∀ (k : Nat) (cs : Array Value), w.heap[k]? = some (.cells cs t0 (0, 0)) → w'.heap[k]? = some (.cells cs t0 (0, 0)) := by
  have HBX : Hid ((w.alloc (.cells #[.int .i64 n, .slice af ys.length kf, .slice ar ps.length kr, .slice none 0 0, .slice none 0 0] 27)).heap[w.heap.size]? = some (.cells #[.int .i64 n, .slice af ys.length kf, .slice ar ps.length kr, .slice none 0 0, .slice none 0 0] 27 (0, 0))) := blk_new _ _ _
  have HB0 : Hid (Below B w (w.alloc (.cells #[.int .i64 n, .slice af ys.length kf, .slice ar ps.length kr, .slice none 0 0, .slice none 0 0] 27)) ∧ ∀ (t0 : TypeId), Kd t0 → ∀ (k : Nat) (cs : Array Value), w.heap[k]? = some (.cells cs t0 (0, 0)) → (w.alloc (.cells #[.int .i64 n, .slice af ys.length kf, .slice ar ps.length kr, .slice none 0 0, .slice none 0 0] 27)).heap[k]? = some (.cells cs t0 (0, 0))) := ⟨(Below.refl _ _).alloc hB _, fun t0 ht k cs hk => ((bel_new w _).block k (Array.getElem?_eq_some_iff.1 hk).1).trans hk⟩
  have HMI : Hid (Calls Try.prog 9 #[.slice af ys.length kf, .int .i64 1] (w.alloc (.cells #[.int .i64 n, .slice af ys.length kf, .slice ar ps.length kr, .slice none 0 0, .slice none 0 0] 27)) fun e w' => e = .returned (.int .i64 ((1 + ys.length : Nat) : Int)) ∧ HeldI w' af 1 ys.length ∧ Below B (w.alloc (.cells #[.int .i64 n, .slice af ys.length kf, .slice ar ps.length kr, .slice none 0 0, .slice none 0 0] 27)) w' ∧ ∀ (k : Nat) (cs : Array Value) (t : TypeId), (w.alloc (.cells #[.int .i64 n, .slice af ys.length kf, .slice ar ps.length kr, .slice none 0 0, .slice none 0 0] 27)).heap[k]? = some (.cells cs t (0, 0)) → t ≠ 3 → w'.heap[k]? = some (.cells cs t (0, 0))) := markI_own af kf 1 ys B _ (ownI_below hf (bel_new _ _)) (by rw [size_new]; omega) (by omega) (by decide)
  have HMQ : Hid (∀ W, (∀ (k : Nat) (cs : Array Value) (t : TypeId), (w.alloc (.cells #[.int .i64 n, .slice af ys.length kf, .slice ar ps.length kr, .slice none 0 0, .slice none 0 0] 27)).heap[k]? = some (.cells cs t (0, 0)) → t ≠ 3 → W.heap[k]? = some (.cells cs t (0, 0))) → Calls Try.prog 38 #[.slice ar ps.length kr, .int .i64 ((1 + ys.length : Nat) : Int)] W fun e w' => e = .returned (.int .i64 ((1 + ys.length + 36 * ps.length : Nat) : Int)) ∧ HeldQ w' ar (1 + ys.length) ps ∧ Fm B W w') := fun W hW => by
    refine markQ_own ar kr (1 + ys.length) ps B W ((hq.below (bel_new w (.cells #[.int .i64 n, .slice af ys.length kf, .slice ar ps.length kr, .slice none 0 0, .slice none 0 0] 27))).kept fun k e => ?_) (fun k p hk => ?_) ap hl (by omega) (by omega)
    · obtain ⟨cs, hc⟩ := ownQ_kind (hq.below (bel_new w (.cells #[.int .i64 n, .slice af ys.length kf, .slice ar ps.length kr, .slice none 0 0, .slice none 0 0] 27))) e
      rw [hc]
      exact hW k cs _ hc (by decide)
    · obtain ⟨gs, gc, e, ⟨f, m⟩, ⟨h, c⟩⟩ := (hp.below (bel_new w (.cells #[.int .i64 n, .slice af ys.length kf, .slice ar ps.length kr, .slice none 0 0, .slice none 0 0] 27))).hu k p hk
      refine ⟨gs, gc, e, ⟨f, m.kept ?_⟩, ⟨h, c.kept ?_⟩⟩
      · obtain ⟨A, a1, _⟩ := m
        rw [a1]
        exact hW _ _ _ a1 (by decide)
      · obtain ⟨A, a1, _⟩ := c
        rw [a1]
        exact hW _ _ _ a1 (by decide)
  clear hf hq hp ap
  generalize ((1 + ys.length + 36 * ps.length : Nat) : Int) = t2 at HMQ ⊢
  generalize ((1 + ys.length : Nat) : Int) = t1 at HMI HMQ
  go_enter Try.func20, Try.ntmps20
  go_upto_region 1 with fail
  generalize w.alloc (.cells #[.int .i64 n, .slice af ys.length kf, .slice ar ps.length kr, .slice none 0 0, .slice none 0 0] 27) = wb at HBX HB0 HMI HMQ ⊢
  generalize w.heap.size = bx at HBX ⊢
  have x1 := (blk_cell HBX.out 1 (x := .slice af ys.length kf) rfl).1
  go_upto_region 2 with (go_at_call 9; refine HMI.out.mono ?_; rintro e w1 ⟨rfl, i1, b1, k1⟩)
  have H2 := HMQ.out w1 k1
  have HX1 : Hid (w1.heap[bx]? = some (.cells #[.int .i64 n, .slice af ys.length kf, .slice ar ps.length kr, .slice none 0 0, .slice none 0 0] 27 (0, 0))) := k1 _ _ _ HBX.out (by decide)
  have HI1 : Hid (HeldI w1 af 1 ys.length) := i1
  have HB1 : Hid (Below B w w1 ∧ ∀ (t0 : TypeId), Kd t0 → ∀ (k : Nat) (cs : Array Value), w.heap[k]? = some (.cells cs t0 (0, 0)) → w1.heap[k]? = some (.cells cs t0 (0, 0))) := ⟨HB0.out.1.trans b1, fun t0 ht k cs hk => k1 _ _ _ (HB0.out.2 t0 ht k cs hk) ht.1⟩
  clear i1 b1 k1 x1 HMI HMQ HBX HB0
  have x2 := (blk_cell HX1.out 2 (x := .slice ar ps.length kr) rfl).1
  go_upto_region 3 with (go_at_call 38; refine H2.mono ?_; rintro e w2 ⟨rfl, q2, f2⟩)
  have HX2 : Hid (w2.heap[bx]? = some (.cells #[.int .i64 n, .slice af ys.length kf, .slice ar ps.length kr, .slice none 0 0, .slice none 0 0] 27 (0, 0))) := f2.k _ _ _ (by decide) (by decide) (by decide) HX1.out
  have HI2 : Hid (HeldI w2 af 1 ys.length) := by
    rcases HI1.out with h | ⟨g, f, h1, ⟨A, a1, a2⟩, h3⟩
    · exact .inl h
    · exact .inr ⟨g, f, h1, ⟨A, f2.k _ _ _ (by decide) (by decide) (by decide) a1, a2⟩, h3⟩
  have HQ2 : Hid (HeldQ w2 ar (1 + ys.length) ps) := q2
  have HB2 : Hid (Below B w w2 ∧ ∀ (t0 : TypeId), Kd t0 → ∀ (k : Nat) (cs : Array Value), w.heap[k]? = some (.cells cs t0 (0, 0)) → w2.heap[k]? = some (.cells cs t0 (0, 0))) := ⟨HB1.out.1.trans f2.b, fun t0 ht k cs hk => f2.k _ _ _ ht.2.1 ht.2.2.1 ht.2.2.2 (HB1.out.2 t0 ht k cs hk)⟩
  clear q2 f2 x2 H2 HX1 HI1 HB1
  have x3 := (blk_cell HX2.out 3 (x := .slice none 0 0) rfl).1
  have x4 := (blk_cell HX2.out 4 (x := .slice none 0 0) rfl).1
  go_wp2_with (first | (go_at_call 39; refine (markPar_nil _ _ _ _).mono ?_; rintro e w' ⟨rfl, rfl⟩) | (go_at_call 40; refine (markMsg_nil _ _ _ _).mono ?_; rintro e w' ⟨rfl, rfl⟩))
  go_ret
  exact ⟨rfl, ⟨HI2.out, HQ2.out⟩, HB2.out⟩
theorem HeldI.ot {w w' : World} {af : Option Addr} {a m : Nat} (h : HeldI w af a m) (o : Ot w w') : HeldI w' af a m := by
  rcases h with h | ⟨g, f, h1, ⟨A, a1, a2⟩, h3⟩
  · exact .inl h
  · exact .inr ⟨g, f, h1, ⟨A, o _ _ _ a1 (by decide) (by decide), a2⟩, h3⟩
theorem HeldQ.ot {w w' : World} {ar : Option Addr} {a : Nat} {ps : List RV} (h : HeldQ w ar a ps) (o : Ot w w') : HeldQ w' ar a ps := by
  rcases h with h | ⟨g, h1, ⟨F, m, mf⟩, h2⟩
  · exact .inl h
  · refine .inr ⟨g, h1, ⟨F, m.kept ?_, mf⟩, fun k p hp => ?_⟩
    · obtain ⟨A, c1, _⟩ := m; rw [c1]; exact o _ _ _ c1 (by decide) (by decide)
    · obtain ⟨gs, gc, e, ⟨f, m2, f2⟩, ⟨hh, c2, f3⟩⟩ := h2 k p hp
      refine ⟨gs, gc, e, ⟨f, m2.kept ?_, f2⟩, ⟨hh, c2.kept ?_, f3⟩⟩
      · obtain ⟨A, c1, _⟩ := m2; rw [c1]; exact o _ _ _ c1 (by decide) (by decide)
      · obtain ⟨A, c1, _⟩ := c2; rw [c1]; exact o _ _ _ c1 (by decide) (by decide)
def HeldD (w : World) (ac : Option Addr) (a : Nat) (cs : List CV) : Prop := cs.length = 0 ∨ ∃ g, ac = some ⟨g, 0, none⟩ ∧ Ms w g cs a cs.length 0
theorem HeldD.below {w w' : World} {ac : Option Addr} {a : Nat} {cs : List CV} (h : HeldD w ac a cs) (hb : Below w.heap.size w w') : HeldD w' ac a cs := by
  rcases h with h | ⟨g, h1, h2⟩
  · exact .inl h
  · exact .inr ⟨g, h1, h2.below hb⟩
theorem markD_own (ac : Option Addr) (cc a : Nat) (cs : List CV) (B : Nat) (w : World) (h : OwnD w B (.slice ac cs.length cc) cs) (hl : cs.length ≤ 3) (ha : a ≤ 1000) (ha0 : 0 < a) (hB : B ≤ w.heap.size) :
    Calls Try.prog 21 #[.slice ac cs.length cc, .int .i64 a] w fun e w' => e = .returned (.int .i64 ((a + 8 * cs.length : Nat) : Int)) ∧ HeldD w' ac a cs ∧ Below B w w' ∧ ∀ (t : TypeId), t ≠ 49 → ∀ (k : Nat) (ds : Array Value), w.heap[k]? = some (.cells ds t (0, 0)) → w'.heap[k]? = some (.cells ds t (0, 0)) := by
  by_cases h0 : cs.length = 0
  · rw [h0]
    refine (markClient_nil (a : Int) ac cc w).mono ?_
    rintro e w' ⟨rfl, rfl⟩
    exact ⟨rfl, .inl h0, Below.refl _ _, fun _ _ _ _ h => h⟩
  · obtain ⟨p, hp⟩ := Rg.get_at (xs := cs) (k := 0) (by omega)
    obtain ⟨g, cap, cur, he, _, hBg, hg, _⟩ := h.at hp
    injection he with e1 _ e3
    subst e1 e3
    refine (markClients_any g cc a cs w (Ms.of h) (by omega) ha ha0).mono ?_
    rintro e w' ⟨rfl, m, gr⟩
    refine ⟨rfl, .inr ⟨g, rfl, m⟩, grown_bel gr hB hBg, fun t ht k ds hk => (gr.block k (Array.getElem?_eq_some_iff.1 hk).1 fun e => ?_).trans hk⟩
    injection e with e
    subst e
    rw [hg] at hk
    injection hk with hk
    injection hk with _ hk _
    exact ht hk.symm
theorem heldD_own (ac : Option Addr) (cc a : Nat) (cs : List CV) (w : World) (h : HeldD w ac a cs) (hl : cs.length ≤ 3) (ha : a ≤ 1000) (ha0 : 0 < a) :
    Calls Try.prog 24 #[.slice ac cs.length cc, .int .i64 a] w fun e w' => e = .returned (.int .i64 ((a + 8 * cs.length : Nat) : Int)) ∧ Below w.heap.size w w' := by
  rcases h with h0 | ⟨g, rfl, h1⟩
  · rw [h0]
    refine (heldClient_nil (a : Int) ac cc w).mono ?_
    rintro e w' ⟨rfl, rfl⟩
    exact ⟨rfl, Below.refl _ _⟩
  · exact heldClients_any g cc a cs w h1 (by omega) ha ha0
set_option maxRecDepth 100000 in
set_option maxHeartbeats 3200000 in
theorem markWorld_new (n : Int) (ys : List Int) (af ar ac : Option Addr) (kf kr cc : Nat) (ps : List RV) (cs : List CV) (B : Nat) (w : World) (hf : OwnI w B (.slice af ys.length kf) ys) (hq : OwnQ w B (.slice ar ps.length kr) ps) (hp : ImpP B w n ps) (ap : Apart ps) (hc : OwnD w B (.slice ac cs.length cc) cs) (hy : ys.length ≤ 2) (hl : ps.length ≤ 7) (hl3 : cs.length ≤ 3) (hB : B ≤ w.heap.size) :
    Calls Try.prog 10 #[.agg #[.int .i64 n, .slice af ys.length kf, .slice ar ps.length kr, .slice none 0 0, .slice none 0 0, .slice ac cs.length cc, .slice none 0 0, .int .i64 0], .int .i64 1] w fun e w' => e = .returned (.int .i64 ((1 + ys.length + 36 * ps.length + 8 * cs.length : Nat) : Int)) ∧ (HeldI w' af 1 ys.length ∧ HeldQ w' ar (1 + ys.length) ps ∧ HeldD w' ac (1 + ys.length + 36 * ps.length) cs) ∧ Below B w w' ∧ ∀ (k : Nat) (ds : Array Value), w.heap[k]? = some (.cells ds 31 (0, 0)) → w'.heap[k]? = some (.cells ds 31 (0, 0)) := by
  have bn := bel_new w (.cells #[.int .i64 n, .slice af ys.length kf, .slice ar ps.length kr, .slice none 0 0, .slice none 0 0, .slice ac cs.length cc, .slice none 0 0, .int .i64 0] 31)
  have HBX : Hid ((w.alloc (.cells #[.int .i64 n, .slice af ys.length kf, .slice ar ps.length kr, .slice none 0 0, .slice none 0 0, .slice ac cs.length cc, .slice none 0 0, .int .i64 0] 31)).heap[w.heap.size]? = some (.cells #[.int .i64 n, .slice af ys.length kf, .slice ar ps.length kr, .slice none 0 0, .slice none 0 0, .slice ac cs.length cc, .slice none 0 0, .int .i64 0] 31 (0, 0))) := blk_new _ _ _
  have HB0 : Hid (Below B w (w.alloc (.cells #[.int .i64 n, .slice af ys.length kf, .slice ar ps.length kr, .slice none 0 0, .slice none 0 0, .slice ac cs.length cc, .slice none 0 0, .int .i64 0] 31)) ∧ ∀ (k : Nat) (ds : Array Value), w.heap[k]? = some (.cells ds 31 (0, 0)) → (w.alloc (.cells #[.int .i64 n, .slice af ys.length kf, .slice ar ps.length kr, .slice none 0 0, .slice none 0 0, .slice ac cs.length cc, .slice none 0 0, .int .i64 0] 31)).heap[k]? = some (.cells ds 31 (0, 0))) := ⟨(Below.refl _ _).alloc hB _, fun k cs hk => (bn.block k (Array.getElem?_eq_some_iff.1 hk).1).trans hk⟩
  have HMG := markGroup_kinds n ys af ar kf kr ps B (w.alloc (.cells #[.int .i64 n, .slice af ys.length kf, .slice ar ps.length kr, .slice none 0 0, .slice none 0 0, .slice ac cs.length cc, .slice none 0 0, .int .i64 0] 31)) (Ng.ownI_below hf bn) (hq.below bn) (hp.below bn) ap hy hl (by rw [size_new]; omega)
  have HDC : Hid (OwnD (w.alloc (.cells #[.int .i64 n, .slice af ys.length kf, .slice ar ps.length kr, .slice none 0 0, .slice none 0 0, .slice ac cs.length cc, .slice none 0 0, .int .i64 0] 31)) B (.slice ac cs.length cc) cs) := hc.below bn
  have HMD : Hid (∀ W, OwnD W B (.slice ac cs.length cc) cs → B ≤ W.heap.size → Calls Try.prog 21 #[.slice ac cs.length cc, .int .i64 ((1 + ys.length + 36 * ps.length : Nat) : Int)] W fun e w' => e = .returned (.int .i64 ((1 + ys.length + 36 * ps.length + 8 * cs.length : Nat) : Int)) ∧ HeldD w' ac (1 + ys.length + 36 * ps.length) cs ∧ Below B W w' ∧ ∀ (t : TypeId), t ≠ 49 → ∀ (k : Nat) (ds : Array Value), W.heap[k]? = some (.cells ds t (0, 0)) → w'.heap[k]? = some (.cells ds t (0, 0))) := fun W h1 h2 => markD_own ac cc (1 + ys.length + 36 * ps.length) cs B W h1 hl3 (by omega) (by omega) h2
  have HSB : Hid (B ≤ (w.alloc (.cells #[.int .i64 n, .slice af ys.length kf, .slice ar ps.length kr, .slice none 0 0, .slice none 0 0, .slice ac cs.length cc, .slice none 0 0, .int .i64 0] 31)).heap.size) := by show _ ≤ _; rw [size_new]; omega
  clear bn hf hq hp ap hc
  generalize ((1 + ys.length + 36 * ps.length + 8 * cs.length : Nat) : Int) = t2 at HMD ⊢
  generalize ((1 + ys.length + 36 * ps.length : Nat) : Int) = t1 at HMG HMD
  go_enter Try.func10, Try.ntmps10
  go_upto_region 1 with fail
  generalize w.alloc (.cells #[.int .i64 n, .slice af ys.length kf, .slice ar ps.length kr, .slice none 0 0, .slice none 0 0, .slice ac cs.length cc, .slice none 0 0, .int .i64 0] 31) = wb at HBX HB0 HMG HDC HSB ⊢
  generalize w.heap.size = bx at HBX ⊢
  have x0 := (blk_cell HBX.out 0 (x := .int .i64 n) rfl).1
  have x1 := (blk_cell HBX.out 1 (x := .slice af ys.length kf) rfl).1
  have x2 := (blk_cell HBX.out 2 (x := .slice ar ps.length kr) rfl).1
  have x3 := (blk_cell HBX.out 3 (x := .slice none 0 0) rfl).1
  have x4 := (blk_cell HBX.out 4 (x := .slice none 0 0) rfl).1
  have x5 := (blk_cell HBX.out 5 (x := .slice ac cs.length cc) rfl).1
  have x6 := (blk_cell HBX.out 6 (x := .slice none 0 0) rfl).1
  have x7 := (blk_cell HBX.out 7 (x := .int .i64 0) rfl).1
  go_upto_region 2 with (go_at_call 20; refine HMG.mono ?_; rintro e w1 ⟨rfl, ⟨i1, q1⟩, b1, k1⟩)
  have HX1 : Hid (w1.heap[bx]? = some (.cells #[.int .i64 n, .slice af ys.length kf, .slice ar ps.length kr, .slice none 0 0, .slice none 0 0, .slice ac cs.length cc, .slice none 0 0, .int .i64 0] 31 (0, 0))) := k1 _ (by unfold Kd; decide) _ _ HBX.out
  have HB1 : Hid (Below B w w1 ∧ ∀ (k : Nat) (ds : Array Value), w.heap[k]? = some (.cells ds 31 (0, 0)) → w1.heap[k]? = some (.cells ds 31 (0, 0))) := ⟨HB0.out.1.trans b1, fun k cs hk => k1 _ (by unfold Kd; decide) _ _ (HB0.out.2 k cs hk)⟩
  have HH1 : Hid (HeldI w1 af 1 ys.length ∧ HeldQ w1 ar (1 + ys.length) ps) := ⟨i1, q1⟩
  have HD1 := HMD.out w1 (HDC.out.kept fun k e => by
    obtain ⟨ds, hd⟩ := ownD_kind HDC.out e
    rw [hd]
    exact k1 _ (by unfold Kd; decide) _ _ hd) (Nat.le_trans HSB.out b1.size)
  clear i1 q1 b1 k1 x0 x1 x2 x3 x4 x5 x6 x7 HMG HMD HDC HBX HB0
  have x0 := (blk_cell HX1.out 0 (x := .int .i64 n) rfl).1
  have x1 := (blk_cell HX1.out 1 (x := .slice af ys.length kf) rfl).1
  have x2 := (blk_cell HX1.out 2 (x := .slice ar ps.length kr) rfl).1
  have x3 := (blk_cell HX1.out 3 (x := .slice none 0 0) rfl).1
  have x4 := (blk_cell HX1.out 4 (x := .slice none 0 0) rfl).1
  have x5 := (blk_cell HX1.out 5 (x := .slice ac cs.length cc) rfl).1
  have x6 := (blk_cell HX1.out 6 (x := .slice none 0 0) rfl).1
  have x7 := (blk_cell HX1.out 7 (x := .int .i64 0) rfl).1
  go_upto_region 3 with (go_at_call 21; refine HD1.mono ?_; rintro e w2 ⟨rfl, d2, b2, k2⟩)
  have HX2 : Hid (w2.heap[bx]? = some (.cells #[.int .i64 n, .slice af ys.length kf, .slice ar ps.length kr, .slice none 0 0, .slice none 0 0, .slice ac cs.length cc, .slice none 0 0, .int .i64 0] 31 (0, 0))) := k2 _ (by decide) _ _ HX1.out
  have HB2 : Hid (Below B w w2 ∧ ∀ (k : Nat) (ds : Array Value), w.heap[k]? = some (.cells ds 31 (0, 0)) → w2.heap[k]? = some (.cells ds 31 (0, 0))) := ⟨HB1.out.1.trans b2, fun k cs hk => k2 _ (by decide) _ _ (HB1.out.2 k cs hk)⟩
  have OT : Ot w1 w2 := fun k ds t hk h1 _ => k2 t h1 k ds hk
  have HH2 : Hid (HeldI w2 af 1 ys.length ∧ HeldQ w2 ar (1 + ys.length) ps ∧ HeldD w2 ac (1 + ys.length + 36 * ps.length) cs) := ⟨HeldI.ot HH1.out.1 OT, HeldQ.ot HH1.out.2 OT, d2⟩
  clear d2 b2 k2 OT x0 x1 x2 x3 x4 x5 x6 x7 HH1 HB1 HX1 HD1
  have x0 := (blk_cell HX2.out 0 (x := .int .i64 n) rfl).1
  have x1 := (blk_cell HX2.out 1 (x := .slice af ys.length kf) rfl).1
  have x2 := (blk_cell HX2.out 2 (x := .slice ar ps.length kr) rfl).1
  have x3 := (blk_cell HX2.out 3 (x := .slice none 0 0) rfl).1
  have x4 := (blk_cell HX2.out 4 (x := .slice none 0 0) rfl).1
  have x5 := (blk_cell HX2.out 5 (x := .slice ac cs.length cc) rfl).1
  have x6 := (blk_cell HX2.out 6 (x := .slice none 0 0) rfl).1
  have x7 := (blk_cell HX2.out 7 (x := .int .i64 0) rfl).1
  go_wp2_with (go_at_call 22; refine (markCallRecord_nil _ _ _ _).mono ?_; rintro e w' ⟨rfl, rfl⟩)
  go_ret
  exact ⟨rfl, HH2.out, HB2.out⟩
set_option maxRecDepth 100000 in
set_option maxHeartbeats 3200000 in
theorem heldWorld_new (n : Int) (m : Nat) (af ar ac : Option Addr) (kf kr cc : Nat) (ps : List RV) (cs : List CV) (w : World) (hf : HeldI w af 1 m) (hq : HeldQ w ar (1 + m) ps) (hd : HeldD w ac (1 + m + 36 * ps.length) cs) (hy : m ≤ 2) (hl : ps.length ≤ 7) (hl3 : cs.length ≤ 3) :
    Calls Try.prog 11 #[.agg #[.int .i64 n, .slice af m kf, .slice ar ps.length kr, .slice none 0 0, .slice none 0 0, .slice ac cs.length cc, .slice none 0 0, .int .i64 0], .int .i64 1] w fun e w' => e = .returned (.int .i64 ((1 + m + 36 * ps.length + 8 * cs.length : Nat) : Int)) ∧ Below w.heap.size w w' := by
  have HC : Hid (∀ W, Below (w.alloc (.cells #[.int .i64 n, .slice af m kf, .slice ar ps.length kr, .slice none 0 0, .slice none 0 0, .slice ac cs.length cc, .slice none 0 0, .int .i64 0] 31)).heap.size (w.alloc (.cells #[.int .i64 n, .slice af m kf, .slice ar ps.length kr, .slice none 0 0, .slice none 0 0, .slice ac cs.length cc, .slice none 0 0, .int .i64 0] 31)) W → W.heap[w.heap.size]? = some (.cells #[.int .i64 n, .slice af m kf, .slice ar ps.length kr, .slice none 0 0, .slice none 0 0, .slice ac cs.length cc, .slice none 0 0, .int .i64 0] 31 (0, 0)) ∧ Below w.heap.size w W) := fun W hW => ⟨(hW.block w.heap.size (by simp)).trans (heap_alloc_new w _), (bel_new w _).trans (hW.mono (by simp))⟩
  have HI : Hid (∀ W, Below w.heap.size w W → Calls Try.prog 23 #[.agg #[.int .i64 n, .slice af m kf, .slice ar ps.length kr, .slice none 0 0, .slice none 0 0], .int .i64 1] W fun e w' => e = .returned (.int .i64 ((1 + m + 36 * ps.length : Nat) : Int)) ∧ Below W.heap.size W w') := fun W hW => heldGroup_new n m af ar kf kr ps W (hf.below hW) (hq.below hW) hy hl
  have HD : Hid (∀ W, Below w.heap.size w W → Calls Try.prog 24 #[.slice ac cs.length cc, .int .i64 ((1 + m + 36 * ps.length : Nat) : Int)] W fun e w' => e = .returned (.int .i64 ((1 + m + 36 * ps.length + 8 * cs.length : Nat) : Int)) ∧ Below W.heap.size W w') := fun W hW => heldD_own ac cc (1 + m + 36 * ps.length) cs W (hd.below hW) hl3 (by omega) (by omega)
  have n1 : ¬ (((1 + m + 36 * ps.length : Nat) : Int) < 0) := by omega
  have n2 : ¬ (((1 + m + 36 * ps.length + 8 * cs.length : Nat) : Int) < 0) := by omega
  clear hf hq hd
  generalize ((1 + m + 36 * ps.length + 8 * cs.length : Nat) : Int) = t2 at HD n2 ⊢
  generalize ((1 + m + 36 * ps.length : Nat) : Int) = t1 at HI HD n1 ⊢
  go_enter Try.func11, Try.ntmps11
  go_upto_region 1 with fail
  generalize w.alloc (.cells #[.int .i64 n, .slice af m kf, .slice ar ps.length kr, .slice none 0 0, .slice none 0 0, .slice ac cs.length cc, .slice none 0 0, .int .i64 0] 31) = wb at HC ⊢
  obtain ⟨X0, B0⟩ := HC.out wb (Below.refl _ _)
  have H1 := HI.out wb B0
  have x0 := (blk_cell X0 0 (x := .int .i64 n) rfl).1
  have x1 := (blk_cell X0 1 (x := .slice af m kf) rfl).1
  have x2 := (blk_cell X0 2 (x := .slice ar ps.length kr) rfl).1
  have x3 := (blk_cell X0 3 (x := .slice none 0 0) rfl).1
  have x4 := (blk_cell X0 4 (x := .slice none 0 0) rfl).1
  have x5 := (blk_cell X0 5 (x := .slice ac cs.length cc) rfl).1
  have x6 := (blk_cell X0 6 (x := .slice none 0 0) rfl).1
  have x7 := (blk_cell X0 7 (x := .int .i64 0) rfl).1
  clear B0 X0
  go_upto_region 2 with (go_at_call 23; refine H1.mono ?_; rintro e w1 ⟨rfl, b1⟩)
  have D1 : Hid (Below wb.heap.size wb w1) := b1
  clear b1 x0 x1 x2 x3 x4 x5 x6 x7 H1
  obtain ⟨X0, B0⟩ := HC.out w1 D1.out
  have H2 := HD.out w1 B0
  have x0 := (blk_cell X0 0 (x := .int .i64 n) rfl).1
  have x1 := (blk_cell X0 1 (x := .slice af m kf) rfl).1
  have x2 := (blk_cell X0 2 (x := .slice ar ps.length kr) rfl).1
  have x3 := (blk_cell X0 3 (x := .slice none 0 0) rfl).1
  have x4 := (blk_cell X0 4 (x := .slice none 0 0) rfl).1
  have x5 := (blk_cell X0 5 (x := .slice ac cs.length cc) rfl).1
  have x6 := (blk_cell X0 6 (x := .slice none 0 0) rfl).1
  have x7 := (blk_cell X0 7 (x := .int .i64 0) rfl).1
  clear B0 X0
  go_upto_region 5 with (go_at_call 24; refine H2.mono ?_; rintro e w2 ⟨rfl, b2⟩)
  have D2 : Hid (Below wb.heap.size wb w2) := D1.out.trans (b2.mono D1.out.size)
  clear b2 x0 x1 x2 x3 x4 x5 x6 x7 H2 D1
  obtain ⟨X0, B0⟩ := HC.out w2 D2.out
  have HB2 : Hid (Below w.heap.size w w2) := B0
  have x0 := (blk_cell X0 0 (x := .int .i64 n) rfl).1
  have x1 := (blk_cell X0 1 (x := .slice af m kf) rfl).1
  have x2 := (blk_cell X0 2 (x := .slice ar ps.length kr) rfl).1
  have x3 := (blk_cell X0 3 (x := .slice none 0 0) rfl).1
  have x4 := (blk_cell X0 4 (x := .slice none 0 0) rfl).1
  have x5 := (blk_cell X0 5 (x := .slice ac cs.length cc) rfl).1
  have x6 := (blk_cell X0 6 (x := .slice none 0 0) rfl).1
  have x7 := (blk_cell X0 7 (x := .int .i64 0) rfl).1
  clear B0 X0 D2 HC
  go_wp2_with (go_at_call 25; refine (heldCallRecord_nil _ _ _ _).mono ?_; rintro e w' ⟨rfl, rfl⟩)
  go_ret
  exact ⟨rfl, HB2.out⟩
end Go.Proofs.Ytdhmmbbdckahmaa.Wn
