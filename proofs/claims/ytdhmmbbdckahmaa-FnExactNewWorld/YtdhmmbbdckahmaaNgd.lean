/- New groups: the program's NewGroup. -/
import Derived.Test.YtdhmmbbdckahmaaNgb
namespace Go.Proofs.Ytdhmmbbdckahmaa.Ng
open Go.RowKit Go.Proofs.Ytdhmmbbdckahmaa.Rg Go.Proofs.Ytdhmmbbdckahmaa.Tm Go.Proofs.Ytdhmmbbdckahmaa.Nr Go.Proofs.Ytdhmmbbdckahmaa.Is
open Go.Proofs.Ytdhmmbbdckahmaa.So hiding bel_new
open Go.Proofs.Ytdhmmbbdckahmaa.Sl (nth)
open Go.Proofs.Ytdhmmbbdckahmaa.Qm (inB)
open Go.Proofs.Ytdhmmbbdckahmaa.Rr (grown_set grown_trans grown_refl grown_alloc)
theorem ownI_slice {w : World} {B : Nat} {v : Value} {xs : List Int} (h : OwnI w B v xs) : ∃ a cap, v = .slice a xs.length cap := by
  obtain ⟨_, h | ⟨g, cap, cur, he, _⟩⟩ := h
  · exact ⟨none, 0, by rw [h.1]; have := h.2; simp at this; rw [this]; rfl⟩
  · exact ⟨_, cap, he⟩
theorem ownI_kept {w w' : World} {B : Nat} {v : Value} {zs : List Int} (h : OwnI w B v zs) (hk : ∀ g, v.ownBlock = some g → w'.heap[g]? = w.heap[g]?) : OwnI w' B v zs := by
  obtain ⟨hl, h⟩ := h
  refine ⟨hl, ?_⟩
  rcases h with h | ⟨g, cap, cur, rfl, h1, hg, h2⟩
  · exact .inl h
  · exact .inr ⟨g, cap, cur, rfl, h1, (hk g rfl).trans hg, h2⟩
theorem ownI_lt {w : World} {B : Nat} {v : Value} {ms : List Int} (h : OwnI w B v ms) : ∀ g, v.ownBlock = some g → B ≤ g ∧ g < w.heap.size := World.ownsRow.lt h
theorem ownI_below {w w' : World} {B : Nat} {v : Value} {ms : List Int} (h : OwnI w B v ms) (hb : Below w.heap.size w w') : OwnI w' B v ms := ownI_kept h fun g hg => hb.block g (ownI_lt h g hg).2
theorem ownI_mono {w : World} {B B' : Nat} {v : Value} {ms : List Int} (h : OwnI w B v ms) (hb : B' ≤ B) : OwnI w B' v ms := by
  obtain ⟨hl, h⟩ := h
  refine ⟨hl, ?_⟩
  rcases h with h | ⟨g, cap, cur, rfl, h1, hg, h2⟩
  · exact .inl h
  · exact .inr ⟨g, cap, cur, rfl, Nat.le_trans hb h1, hg, h2⟩
theorem ownI_kind {w : World} {B k : Nat} {v : Value} {ms : List Int} (h : OwnI w B v ms) (hk : v.ownBlock = some k) : ∃ cs, w.heap[k]? = some (.cells cs 3 (0, 0)) := by
  obtain ⟨_, h | ⟨g', cap', cur, he, _, hgg, _⟩⟩ := h
  · rw [h.1] at hk; simp [Value.ownBlock] at hk
  · rw [he] at hk
    simp [Value.ownBlock] at hk
    subst hk
    exact ⟨_, hgg⟩
theorem ownQ_kind {w : World} {B k : Nat} {v : Value} {ms : List RV} (h : OwnQ w B v ms) (hk : v.ownBlock = some k) : ∃ cs, w.heap[k]? = some (.cells cs 65 (0, 0)) := by
  obtain ⟨_, h | ⟨g', cap', cur, he, _, hgg, _⟩⟩ := h
  · rw [h.1] at hk; simp [Value.ownBlock] at hk
  · rw [he] at hk
    simp [Value.ownBlock] at hk
    subst hk
    exact ⟨_, hgg⟩
/-- While a group is made: its box, what it owns, its replicas. -/
structure NIn (B x : Nat) (n : Int) (vf : Value) (xs : List Int) (w wr : World) (vr : Value) (ps : List RV) : Prop where
  z : wr.heap[B]? = some (.cells #[.int .i64 0, .slice none 0 0, .slice none 0 0, .slice none 0 0, .slice none 0 0] 27 (0, 0))
  g : wr.heap[x]? = some (.cells #[.int .i64 n, vf, vr, .slice none 0 0, .slice none 0 0] 27 (0, 0))
  f : OwnI wr B vf xs
  q : OwnQ wr B vr ps
  p : ImpP B wr n ps
  a : Apart ps
  b : Below B w wr
theorem NIn.below {B x : Nat} {n : Int} {vf : Value} {xs : List Int} {w wr w1 : World} {vr : Value} {ps : List RV} (h : NIn B x n vf xs w wr vr ps) (hb : Below wr.heap.size wr w1) : NIn B x n vf xs w w1 vr ps :=
  ⟨(hb.block _ (Array.getElem?_eq_some_iff.1 h.z).1).trans h.z, (hb.block _ (Array.getElem?_eq_some_iff.1 h.g).1).trans h.g, ownI_below h.f hb, h.q.below hb, h.p.below hb, h.a, h.b.trans (hb.mono (Nat.le_of_lt (Array.getElem?_eq_some_iff.1 h.z).1))⟩
theorem NIn.kq {B x : Nat} {n : Int} {vf : Value} {xs : List Int} {w wr w4 : World} {vr v4 : Value} {ps : List RV} (h : NIn B x n vf xs w wr vr ps) (hk : Kq wr w4 vr v4) : ∀ (k : Nat) (cs : Array Value) (t : TypeId), wr.heap[k]? = some (.cells cs t (0, 0)) → t ≠ 65 → w4.heap[k]? = some (.cells cs t (0, 0)) := fun k cs t hc ht => by
  refine ((hk k (Array.getElem?_eq_some_iff.1 hc).1 fun e => ?_).1).trans hc
  obtain ⟨ds, hd⟩ := ownQ_kind h.q e.symm
  rw [hc] at hd
  injection hd with hd
  injection hd with _ hd _
  exact ht hd
theorem NIn.step {B x : Nat} {n : Int} {vf : Value} {xs : List Int} {w wr w4 : World} {vr v4 : Value} {ps : List RV} {m : RV} (h : NIn B x n vf xs w wr vr ps) (hx : B < x) (o4 : OwnQ w4 B v4 (ps ++ [m])) (b4 : Below B w w4) (hk : Kq wr w4 vr v4)
    (hi : ImpP B wr n (ps ++ [m])) (ha : Apart (ps ++ [m])) : NIn B x n vf xs w (w4.setCell ⟨x, 2, none⟩ v4) v4 (ps ++ [m]) := by
  have hz := h.kq hk _ _ _ h.z (by decide)
  have hg := h.kq hk _ _ _ h.g (by decide)
  have hg2 := blk_set hg 2 v4
  refine ⟨(blk_far (by omega) _ _).trans hz, by simpa using hg2, ?_, OwnQ.set o4 (ownQ_ne o4 hg) 2 v4, ?_, ha, Below.setCell b4 (p := ⟨x, 2, none⟩) (Nat.le_of_lt hx) v4⟩
  · refine ownI_kept h.f fun k e => ?_
    obtain ⟨cs, hc⟩ := ownI_kind h.f e
    rw [blk_far (fun e2 => ?_) _ _, h.kq hk _ _ _ hc (by decide), hc]
    subst e2
    rw [h.g] at hc
    simp at hc
  · refine hi.keep fun k hl h1 h2 => ?_
    rw [blk_far (fun e2 => ?_) _ _]
    · refine (hk k hl fun e => ?_).1
      obtain ⟨ds, hd⟩ := ownQ_kind h.q e.symm
      exact h1 _ hd
    · subst e2
      exact h2 _ h.g
set_option maxRecDepth 100000 in
set_option maxHeartbeats 3200000 in
theorem implNG_ok (n : Int) (v : Value) (xs : List Int) (w : World) (h : RowI w v xs) (hl : xs.length ≤ 4096) (hf : faB n xs = true) :
    Calls Try.prog 15 #[.int .i64 n, v] w fun e w' => ∃ af kf ar kr, e = .returned (.tuple #[.agg #[.int .i64 n, .slice af xs.length kf, .slice ar n.toNat kr, .slice none 0 0, .slice none 0 0], .int .i64 0]) ∧ (∃ ps, OwnI w' w.heap.size (.slice af xs.length kf) xs ∧ OwnQ w' w.heap.size (.slice ar n.toNat kr) ps ∧ ps.length = n.toNat ∧ ImpP w.heap.size w' n ps ∧ Apart ps) ∧ Below w.heap.size w w' := by
  have hf0 : fCode n = 0 := (bOf_iff.1 hf).1
  have hn := f_small hf0
  obtain ⟨N, rfl⟩ : ∃ N : Nat, n = (N : Int) := ⟨n.toNat, by omega⟩
  have hN : N ≤ 7 := by omega
  rw [Int.toNat_natCast]
  obtain ⟨i0, hi0, hz0, hz1, hz2⟩ := info_parts infoQ
  have HNR : Hid (∀ (j : Nat) (W : World), j < N → Calls Try.prog 31 #[.int .i64 (j : Int), .int .i64 (N : Int)] W fun e w' => ∃ gs gc, e = .returned (.tuple #[.agg #[.int .i64 (j : Int), .int .i64 (N : Int), .int .i64 0, .bool true, .slice (some ⟨gs, 0, none⟩) 8 8, .slice (some ⟨gc, 0, none⟩) 8 8, .slice none 0 0, .slice none 0 0], .int .i64 0]) ∧ W.heap.size ≤ gs ∧ W.heap.size ≤ gc ∧ gs ≠ gc ∧ MS w' gs 8 (fun _ => (⟨#[]⟩, false, false)) ∧ MC w' gc 8 (fun _ => ⟨#[]⟩) ∧ Below W.heap.size W w') := fun j W hj => implNew_yes (j : Int) (N : Int) W (by unfold okR; rw [decide_eq_true hf0]; show Qm.inB _ _ _ = true; rw [inB_iff]; omega)
  have HZ : Hid ((w.alloc (.cells #[.int .i64 0, .slice none 0 0, .slice none 0 0, .slice none 0 0, .slice none 0 0] 27)).heap[w.heap.size]? = some (.cells #[.int .i64 0, .slice none 0 0, .slice none 0 0, .slice none 0 0, .slice none 0 0] 27 (0, 0))) := blk_new _ _ _
  have HB0 : Hid (Below w.heap.size w (w.alloc (.cells #[.int .i64 0, .slice none 0 0, .slice none 0 0, .slice none 0 0, .slice none 0 0] 27))) := bel_new _ _
  have HROW : Hid (RowI (w.alloc (.cells #[.int .i64 0, .slice none 0 0, .slice none 0 0, .slice none 0 0, .slice none 0 0] 27)) v xs) := h.below (bel_new _ _)
  have HLEN : Hid (xs.length ≤ 4096) := hl
  have HFB : Hid (faB (N : Int) xs = true) := hf
  obtain ⟨a0, c0, rfl, _⟩ := h
  have hle : ¬ (4096 : Int) < (xs.length : Int) := by omega
  clear hf hf0 hl hn
  go_enter Try.func15, Try.ntmps15
  go_upto_region 1 with fail
  generalize w.alloc (.cells #[.int .i64 0, .slice none 0 0, .slice none 0 0, .slice none 0 0, .slice none 0 0] 27) = w0 at HZ HB0 HROW ⊢
  have HFO := faultyOK_any (N : Int) (.slice a0 xs.length c0) xs w0 (rowN HROW.out) (by have := HLEN.out; omega)
  rw [HFB.out] at HFO
  have HCL : Hid (∀ W, W = w0 → Calls Try.prog 30 #[.slice a0 xs.length c0] W fun e w' => ∃ v', e = .returned v' ∧ OwnI w' W.heap.size v' xs ∧ Below W.heap.size W w') := fun W hW => by subst hW; exact clone_any _ xs _ HROW.out HLEN.out
  go_wp2_with fail
  refine HFO.mono ?_
  rintro e _ ⟨rfl, rfl⟩
  clear HFO
  go_wp2_with fail
  refine (HCL.out _ rfl).mono ?_
  rintro e w1 ⟨vf, rfl, o1, b1⟩
  obtain ⟨af, kf, rfl⟩ := ownI_slice o1
  have l0 := (Array.getElem?_eq_some_iff.1 HZ.out).1
  have l1 : w.heap.size < w1.heap.size := Nat.lt_of_lt_of_le l0 b1.size
  have HN0 : Hid (NIn w.heap.size w1.heap.size (N : Int) (.slice af xs.length kf) xs w (w1.alloc (.cells #[.int .i64 (N : Int), .slice af xs.length kf, .slice none 0 0, .slice none 0 0, .slice none 0 0] 27)) (.slice none 0 0) []) := by
    refine ⟨((bel_new w1 _).block _ l1).trans ((b1.block _ l0).trans HZ.out), blk_new _ _ _, ownI_below (ownI_mono o1 (Nat.le_of_lt l0)) (bel_new _ _), OwnQ.nil _ _, fun k p hp => by simp at hp, fun k l p q _ hp => by simp at hp, ?_⟩
    exact (HB0.out.trans (b1.mono (Nat.le_of_lt l0))).trans ((bel_new w1 _).mono (Nat.le_of_lt l1))
  clear o1 b1 HZ HB0 HROW HCL l0
  go_upto_region 6 with fail
  generalize w1.alloc (.cells #[.int .i64 (N : Int), .slice af xs.length kf, .slice none 0 0, .slice none 0 0, .slice none 0 0] 27) = w2 at HN0 ⊢
  generalize w1.heap.size = x at l1 HN0 ⊢
  go_wp2_with fail
  go_loopw [24] (fun i wr => ∃ (j : Nat) (ps : List RV) (vr : Value), i = .int .i64 (j : Int) ∧ j ≤ N ∧ Hid (ps.length = j) ∧ Hid (NIn w.heap.size x (N : Int) (.slice af xs.length kf) xs w wr vr ps)) (fun i _ => N - (intOf i).toNat)
  case atStart => exact ⟨0, [], _, rfl, by omega, rfl, HN0⟩
  case round =>
    clear HN0
    obtain ⟨j, ps, vr, rfl, hj, HL, HI⟩ := hrel
    obtain ⟨ar, kr, rfl⟩ := OwnQ.slice HI.out.q
    by_cases hlt : j < N
    · have hlt' : (j : Int) < (N : Int) := by omega
      have HN1 := HNR.out j wr hlt
      go_wp2_with fail
      refine HN1.mono ?_
      rintro e w3 ⟨gs, gc, rfl, h1, h2, h3, h4, h5, h6⟩
      clear HN1
      have HI3 : Hid (NIn w.heap.size x (N : Int) (.slice af xs.length kf) xs w (w3.alloc (.cells #[.int .i64 (j : Int), .int .i64 (N : Int), .int .i64 0, .bool true, .slice (some ⟨gs, 0, none⟩) 8 8, .slice (some ⟨gc, 0, none⟩) 8 8, .slice none 0 0, .slice none 0 0] 65)) (.slice ar ps.length kr) ps) := (HI.out.below h6).below (bel_new _ _)
      have HBX : Hid ((w3.alloc (.cells #[.int .i64 (j : Int), .int .i64 (N : Int), .int .i64 0, .bool true, .slice (some ⟨gs, 0, none⟩) 8 8, .slice (some ⟨gc, 0, none⟩) 8 8, .slice none 0 0, .slice none 0 0] 65)).heap[w3.heap.size]? = some (.cells #[.int .i64 (j : Int), .int .i64 (N : Int), .int .i64 0, .bool true, .slice (some ⟨gs, 0, none⟩) 8 8, .slice (some ⟨gc, 0, none⟩) 8 8, .slice none 0 0, .slice none 0 0] 65 (0, 0))) := blk_new _ _ _
      have hwb := HI.out.b.size
      have HP : Hid (ImpP w.heap.size (w3.alloc (.cells #[.int .i64 (j : Int), .int .i64 (N : Int), .int .i64 0, .bool true, .slice (some ⟨gs, 0, none⟩) 8 8, .slice (some ⟨gc, 0, none⟩) 8 8, .slice none 0 0, .slice none 0 0] 65)) (N : Int) (ps ++ [⟨(j : Int), (N : Int), some ⟨gs, 0, none⟩, 8, some ⟨gc, 0, none⟩, 8, none, 0, none, 0⟩]) ∧ Apart (ps ++ [⟨(j : Int), (N : Int), some ⟨gs, 0, none⟩, 8, some ⟨gc, 0, none⟩, 8, none, 0, none, 0⟩])) := by
        refine ⟨HI3.out.p.snoc (by rw [HL.out]) rfl ⟨rfl, rfl, rfl, rfl⟩ ⟨rfl, rfl, rfl, rfl⟩ (by omega) (by omega) (h4.below (bel_new _ _)) (h5.below (bel_new _ _)), ?_⟩
        exact HI.out.a.snoc HI.out.p ⟨rfl, rfl, rfl, rfl⟩ h1 h2
      clear h1 h2 h3 h4 h5 h6 HI hwb
      go_upto_region 10 with fail
      generalize w3.alloc (.cells #[.int .i64 (j : Int), .int .i64 (N : Int), .int .i64 0, .bool true, .slice (some ⟨gs, 0, none⟩) 8 8, .slice (some ⟨gc, 0, none⟩) 8 8, .slice none 0 0, .slice none 0 0] 65) = wb at HI3 HBX HP ⊢
      generalize w3.heap.size = bx at HBX ⊢
      have e0 := (blk_cell HBX.out 0 (x := .int .i64 (j : Int)) rfl).1
      have e1 := (blk_cell HBX.out 1 (x := .int .i64 (N : Int)) rfl).1
      have e2 := (blk_cell HBX.out 2 (x := .int .i64 0) rfl).1
      have e3 := (blk_cell HBX.out 3 (x := .bool true) rfl).1
      have e4 := (blk_cell HBX.out 4 (x := .slice (some ⟨gs, 0, none⟩) 8 8) rfl).1
      have e5 := (blk_cell HBX.out 5 (x := .slice (some ⟨gc, 0, none⟩) 8 8) rfl).1
      have e6 := (blk_cell HBX.out 6 (x := .slice none 0 0) rfl).1
      have e7 := (blk_cell HBX.out 7 (x := .slice none 0 0) rfl).1
      have g2 := (blk_cell HI3.out.g 2 (x := .slice ar ps.length kr) rfl).1
      have hul : ps.length ≤ 1000000 := by rw [HL.out]; omega
      go_wp2_with (at_builtin; go_must (refine listQ (by rfl) _ _ 23 (by rfl) i0 Try.underlying23 hi0 hz0 hz1 hz2 w.heap.size w _ _ ps ⟨(j : Int), (N : Int), some ⟨gs, 0, none⟩, 8, some ⟨gc, 0, none⟩, 8, none, 0, none, 0⟩ (by rfl) HI3.out.q HI3.out.b HI3.out.b.size _ (by rfl) (by simp) hul ?_; intro v4 w4 o4 b4 k4; obtain ⟨a4, c4, rfl⟩ := OwnQ.slice o4; have hx4 := HI3.out.kq k4 _ _ _ HI3.out.g (by decide); obtain ⟨s5, f5⟩ := blk_cell hx4 2 (x := .slice ar ps.length kr) rfl))
      all_goals
        have HS := HI3.out.step l1 o4 b4 k4 HP.out.1 HP.out.2
        rw [show (ps ++ [(⟨(j : Int), (N : Int), some ⟨gs, 0, none⟩, 8, some ⟨gc, 0, none⟩, 8, none, 0, none, 0⟩ : RV)]).length = ps.length + 1 by simp] at HS
        exact ⟨⟨j + 1, _, _, by go_num, by omega, (by show _ = _; rw [List.length_append, HL.out]; rfl), HS⟩, by simp [intOf]; omega⟩
    · obtain rfl : j = N := by omega
      go_upto_region 12 with fail
      have HA := HI.out.z
      have HG := HI.out.g
      obtain ⟨ca0, fa0⟩ := blk_cell HA 0 (x := .int .i64 0) rfl
      have cb0 := (blk_cell HG 0 (x := .int .i64 (j : Int)) rfl).1
      obtain ⟨ca1, fa1⟩ := blk_cell HA 1 (x := .slice none 0 0) rfl
      have cb1 := (blk_cell HG 1 (x := .slice af xs.length kf) rfl).1
      obtain ⟨ca2, fa2⟩ := blk_cell HA 2 (x := .slice none 0 0) rfl
      have cb2 := (blk_cell HG 2 (x := .slice ar ps.length kr) rfl).1
      obtain ⟨ca3, fa3⟩ := blk_cell HA 3 (x := .slice none 0 0) rfl
      have cb3 := (blk_cell HG 3 (x := .slice none 0 0) rfl).1
      obtain ⟨ca4, fa4⟩ := blk_cell HA 4 (x := .slice none 0 0) rfl
      have cb4 := (blk_cell HG 4 (x := .slice none 0 0) rfl).1
      have AF : ((((((wr.setCell ⟨w.heap.size, 0, none⟩ (.int .i64 (j : Int))).setCell ⟨w.heap.size, 1, none⟩ (.slice af xs.length kf)).setCell ⟨w.heap.size, 2, none⟩ (.slice ar ps.length kr)).setCell ⟨w.heap.size, 3, none⟩ (.slice none 0 0)).setCell ⟨w.heap.size, 4, none⟩ (.slice none 0 0))).heap[w.heap.size]? = some (.cells #[.int .i64 (j : Int), .slice af xs.length kf, .slice ar ps.length kr, .slice none 0 0, .slice none 0 0] 27 (0, 0)) := (blk_set (blk_set (blk_set (blk_set (blk_set HA 0 (.int .i64 (j : Int))) 1 (.slice af xs.length kf)) 2 (.slice ar ps.length kr)) 3 (.slice none 0 0)) 4 (.slice none 0 0))
      have BF : Hid (Below w.heap.size w (((((wr.setCell ⟨w.heap.size, 0, none⟩ (.int .i64 (j : Int))).setCell ⟨w.heap.size, 1, none⟩ (.slice af xs.length kf)).setCell ⟨w.heap.size, 2, none⟩ (.slice ar ps.length kr)).setCell ⟨w.heap.size, 3, none⟩ (.slice none 0 0)).setCell ⟨w.heap.size, 4, none⟩ (.slice none 0 0))) := (Below.setCell (Below.setCell (Below.setCell (Below.setCell (Below.setCell HI.out.b (p := ⟨w.heap.size, 0, none⟩) (Nat.le_refl _) (.int .i64 (j : Int))) (p := ⟨w.heap.size, 1, none⟩) (Nat.le_refl _) (.slice af xs.length kf)) (p := ⟨w.heap.size, 2, none⟩) (Nat.le_refl _) (.slice ar ps.length kr)) (p := ⟨w.heap.size, 3, none⟩) (Nat.le_refl _) (.slice none 0 0)) (p := ⟨w.heap.size, 4, none⟩) (Nat.le_refl _) (.slice none 0 0))
      have KF : Hid (OwnI (((((wr.setCell ⟨w.heap.size, 0, none⟩ (.int .i64 (j : Int))).setCell ⟨w.heap.size, 1, none⟩ (.slice af xs.length kf)).setCell ⟨w.heap.size, 2, none⟩ (.slice ar ps.length kr)).setCell ⟨w.heap.size, 3, none⟩ (.slice none 0 0)).setCell ⟨w.heap.size, 4, none⟩ (.slice none 0 0)) w.heap.size (.slice af xs.length kf) xs ∧ OwnQ (((((wr.setCell ⟨w.heap.size, 0, none⟩ (.int .i64 (j : Int))).setCell ⟨w.heap.size, 1, none⟩ (.slice af xs.length kf)).setCell ⟨w.heap.size, 2, none⟩ (.slice ar ps.length kr)).setCell ⟨w.heap.size, 3, none⟩ (.slice none 0 0)).setCell ⟨w.heap.size, 4, none⟩ (.slice none 0 0)) w.heap.size (.slice ar ps.length kr) ps ∧ ImpP w.heap.size (((((wr.setCell ⟨w.heap.size, 0, none⟩ (.int .i64 (j : Int))).setCell ⟨w.heap.size, 1, none⟩ (.slice af xs.length kf)).setCell ⟨w.heap.size, 2, none⟩ (.slice ar ps.length kr)).setCell ⟨w.heap.size, 3, none⟩ (.slice none 0 0)).setCell ⟨w.heap.size, 4, none⟩ (.slice none 0 0)) (j : Int) ps) := by
        have hne : ∀ k, k ≠ w.heap.size → ((((((wr.setCell ⟨w.heap.size, 0, none⟩ (.int .i64 (j : Int))).setCell ⟨w.heap.size, 1, none⟩ (.slice af xs.length kf)).setCell ⟨w.heap.size, 2, none⟩ (.slice ar ps.length kr)).setCell ⟨w.heap.size, 3, none⟩ (.slice none 0 0)).setCell ⟨w.heap.size, 4, none⟩ (.slice none 0 0))).heap[k]? = wr.heap[k]? := fun k hk => by rw [blk_far hk, blk_far hk, blk_far hk, blk_far hk, blk_far hk]
        refine ⟨ownI_kept HI.out.f fun k e => hne k fun e2 => ?_, HI.out.q.kept fun k e => hne k fun e2 => ?_, HI.out.p.keep fun k hl h1 h2 => hne k fun e2 => ?_⟩
        · obtain ⟨cs, hc⟩ := ownI_kind HI.out.f e
          subst e2
          rw [HA] at hc
          simp at hc
        · obtain ⟨cs, hc⟩ := ownQ_kind HI.out.q e
          subst e2
          rw [HA] at hc
          simp at hc
        · subst e2
          exact h2 _ HA
      have HAP : Hid (Apart ps) := HI.out.a
      have hxw : x ≠ w.heap.size := by omega
      clear HA HG HI
      go_wp2_with fail
      generalize (((((wr.setCell ⟨w.heap.size, 0, none⟩ (.int .i64 (j : Int))).setCell ⟨w.heap.size, 1, none⟩ (.slice af xs.length kf)).setCell ⟨w.heap.size, 2, none⟩ (.slice ar ps.length kr)).setCell ⟨w.heap.size, 3, none⟩ (.slice none 0 0)).setCell ⟨w.heap.size, 4, none⟩ (.slice none 0 0)) = wf at AF BF KF ⊢
      have d0 := (blk_cell AF 0 (x := .int .i64 (j : Int)) rfl).1
      have d1 := (blk_cell AF 1 (x := .slice af xs.length kf) rfl).1
      have d2 := (blk_cell AF 2 (x := .slice ar ps.length kr) rfl).1
      have d3 := (blk_cell AF 3 (x := .slice none 0 0) rfl).1
      have d4 := (blk_cell AF 4 (x := .slice none 0 0) rfl).1
      exact bodyPost_ret (v := .tuple #[.agg #[.int .i64 (j : Int), .slice af xs.length kf, .slice ar ps.length kr, .slice none 0 0, .slice none 0 0], .int .i64 0]) (by simp [results, Try.results15, go_sem, d0, d1, d2, d3, d4]) rfl ⟨af, kf, ar, kr, by rw [HL.out], ⟨ps, KF.out.1, by rw [← HL.out]; exact KF.out.2.1, HL.out, KF.out.2.2, HAP.out⟩, BF.out⟩
end Go.Proofs.Ytdhmmbbdckahmaa.Ng
