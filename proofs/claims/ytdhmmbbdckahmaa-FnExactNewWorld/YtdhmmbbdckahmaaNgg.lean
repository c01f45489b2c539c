/- New groups alike; integers that are marked. -/
import Derived.Test.YtdhmmbbdckahmaaNgf
namespace Go.Proofs.Ytdhmmbbdckahmaa.Ng
open Go.RowKit Go.Proofs.Ytdhmmbbdckahmaa.Rg Go.Proofs.Ytdhmmbbdckahmaa.Tm Go.Proofs.Ytdhmmbbdckahmaa.Nr Go.Proofs.Ytdhmmbbdckahmaa.Is
open Go.Proofs.Ytdhmmbbdckahmaa.So hiding bel_new
open Go.Proofs.Ytdhmmbbdckahmaa.Sl (nth)
open Go.Proofs.Ytdhmmbbdckahmaa.Qm (inB)
open Go.Proofs.Ytdhmmbbdckahmaa.Rr (grown_set grown_trans grown_refl grown_alloc)
/-- Block g holds m integers. -/
def MI (w : World) (g m : Nat) (f : Nat → Int) : Prop := ∃ A, w.heap[g]? = some (.cells A 3 (0, 0)) ∧ ∀ i, i < m → A[i]? = some (.int .i64 (f i))
theorem MI.kept {w w' : World} {g m : Nat} {f : Nat → Int} (h : MI w g m f) (hb : w'.heap[g]? = w.heap[g]?) : MI w' g m f := by obtain ⟨A, h1, h2⟩ := h; exact ⟨A, hb.trans h1, h2⟩
theorem MI.lt {w : World} {g m : Nat} {f : Nat → Int} (h : MI w g m f) : g < w.heap.size := by obtain ⟨A, h1, _⟩ := h; exact (Array.getElem?_eq_some_iff.1 h1).1
theorem MI.below {w w' : World} {g m : Nat} {f : Nat → Int} (h : MI w g m f) (hb : Below w.heap.size w w') : MI w' g m f := h.kept (hb.block g h.lt)
theorem MI.cell {w : World} {g m : Nat} {f : Nat → Int} (h : MI w g m f) {i : Nat} (hi : i < m) : w.cell? ⟨g, i, none⟩ = some (.int .i64 (f i)) ∧ w.frozen? ⟨g, i, none⟩ = false := by
  obtain ⟨A, h1, h2⟩ := h
  exact blk_cell h1 _ (h2 i hi)
theorem MI.set {w : World} {g m : Nat} {f : Nat → Int} (h : MI w g m f) {q : Nat} (hq : q < m) (x : Int) : MI (w.setCell ⟨g, q, none⟩ (.int .i64 x)) g m (upd f q x) := by
  obtain ⟨A, h1, h2⟩ := h
  refine ⟨_, blk_set h1 _ _, fun i hi => ?_⟩
  have hs : q < A.size := (Array.getElem?_eq_some_iff.1 (h2 q hq)).1
  rw [Array.getElem?_setIfInBounds]
  by_cases e : q = i
  · subst e
    rw [if_pos rfl, if_pos hs, upd_q]
  · rw [if_neg e, upd_o _ _ (Ne.symm e)]
    exact h2 i hi
set_option maxHeartbeats 400000 in
theorem toIntO_any (v : Value) (xs : List Int) (w : World) (h : RowI w v xs) (hl : xs.length ≤ 1048576) :
    Calls Try.prog 5 #[v] w fun e w' => ∃ g, e = .returned (.slice (some ⟨g, 0, none⟩) xs.length xs.length) ∧ (w.heap.size ≤ g ∧ MI w' g xs.length (fun i => nth xs i) ∧ RowI w' (.slice (some ⟨g, 0, none⟩) xs.length xs.length) xs) ∧ Below w.heap.size w w' := by
  obtain ⟨a, cap, rfl, h, hr⟩ := h
  obtain ⟨i0, hi, hz0, hz1, hz2⟩ := info_parts info3
  have hmk := run_make (P := Try.prog) w 22 3 i0 (.int .i64 0) Try.underlying22 hi hz0 .i64 .i64 (xs.length : Int) (xs.length : Int) (by omega) (by omega) (by rw [hz2]; omega) (by omega)
  have hA0 : Copied xs 0 (madeCells (Value.int .i64 0).cells ((xs.length : Int).toNat * i0.size)) := ⟨by rw [hz1]; simp [madeCells, Value.cells], fun j hj => absurd hj (by omega)⟩
  generalize madeCells (Value.int .i64 0).cells ((xs.length : Int).toNat * i0.size) = A0 at hmk hA0
  rw [Int.toNat_natCast] at hmk
  go_enter Try.func5, Try.ntmps5
  go_wp2_with fail
  clear hmk
  go_loopw [4] (fun i wr => ∃ k : Nat, ∃ A : Array Value, k ≤ xs.length ∧ i = .int .i64 k ∧ wr = w.alloc (.cells A 3) ∧ Copied xs k A) (fun i _ => xs.length - (intOf i).toNat)
  case atStart => exact ⟨0, A0, by omega, rfl, rfl, hA0⟩
  case round =>
    clear hA0
    obtain ⟨k, A, hk, rfl, rfl, hA⟩ := hrel
    by_cases hlt : k < xs.length
    · rcases h with h | ⟨b, off, rfl, hc, hb, hcell⟩
      · exact absurd hlt (by rw [h]; simp)
      have hc1 := hcell k hlt
      have hne : b ≠ w.heap.size := by omega
      obtain ⟨x, hx⟩ : ∃ x, A[k]? = some x := ⟨_, Array.getElem?_eq_getElem (by rw [hA.1]; exact hlt)⟩
      clear hcell
      have hA' : Copied xs (k + 1) (A.setIfInBounds k (.int .i64 (nth xs k))) := by
        refine ⟨by rw [Array.size_setIfInBounds]; exact hA.1, fun j hj => ?_⟩
        rw [Array.getElem?_setIfInBounds]
        by_cases e : k = j
        · subst e
          rw [if_pos rfl, if_pos (by rw [hA.1]; exact hlt)]
        · rw [if_neg e]
          exact hA.2 j (by omega)
      go_wp2
      go_roundw
      case rel => exact ⟨k + 1, _, by omega, by go_num, rfl, hA'⟩
      case measure => simp [intOf]; omega
    · obtain rfl : k = xs.length := by omega
      go_wp2
      go_ret
      refine ⟨w.heap.size, rfl, ⟨Nat.le_refl _, ⟨A, heap_alloc_new _ _, fun i hi => hA.2 i hi⟩, ⟨_, _, rfl, .inr ⟨w.heap.size, 0, rfl, Nat.le_refl _, by simp, fun i hi => ?_⟩, hr⟩⟩, (Below.refl _ _).alloc (Nat.le_refl _) _⟩
      rw [Nat.zero_add, World.cell?_alloc_at _ _ _ _ rfl]
      exact hA.2 i hi
set_option maxHeartbeats 400000 in
theorem markInt_nil (a : Int) (ad : Option Addr) (cap : Nat) (w : World) : Calls Try.prog 9 #[.slice ad 0 cap, .int .i64 a] w fun e w' => e = .returned (.int .i64 a) ∧ w = w' := by
  go_enter Try.func9, Try.ntmps9
  go_wp2_with fail
  go_loopw [1, 5] (fun k i wr => k = .int .i64 a ∧ i = .int .i64 0 ∧ wr = w) (fun _ _ _ => 0)
  case atStart => exact ⟨rfl, rfl, rfl⟩
  case round =>
    obtain ⟨rfl, rfl, rfl⟩ := hrel
    go_wp2
    go_ret
    exact ⟨rfl, rfl⟩
set_option maxHeartbeats 400000 in
theorem heldInt_nil (a : Int) (ad : Option Addr) (cap : Nat) (w : World) : Calls Try.prog 44 #[.slice ad 0 cap, .int .i64 a] w fun e w' => e = .returned (.int .i64 a) ∧ w = w' := by
  go_enter Try.func44, Try.ntmps44
  go_wp2_with fail
  go_loopw [1, 5] (fun k i wr => k = .int .i64 a ∧ i = .int .i64 0 ∧ wr = w) (fun _ _ _ => 0)
  case atStart => exact ⟨rfl, rfl, rfl⟩
  case round =>
    obtain ⟨rfl, rfl, rfl⟩ := hrel
    go_wp2
    go_ret
    exact ⟨rfl, rfl⟩
set_option maxRecDepth 100000 in
set_option maxHeartbeats 3200000 in
theorem markInts (g m cap a : Nat) (f : Nat → Int) (w : World) (h : MI w g m f) (hm : m ≤ 1048576) (ha : a ≤ 1000) :
    Calls Try.prog 9 #[.slice (some ⟨g, 0, none⟩) m cap, .int .i64 a] w fun e w' => e = .returned (.int .i64 ((a + m : Nat) : Int)) ∧ (∃ f', MI w' g m f' ∧ ∀ j, j < m → f' j = ((a + j : Nat) : Int)) ∧ w.grownBy w' (some g) := by
  have H : Hid (MI w g m f) := h
  clear h
  go_enter Try.func9, Try.ntmps9
  go_wp2_with fail
  go_loopw [1, 5] (fun k i wr => ∃ (q r : Nat) (f : Nat → Int), q ≤ m ∧ k = .int .i64 (r : Int) ∧ r ≤ 2000000 ∧ i = .int .i64 q ∧ Hid (r = a + q) ∧ Hid (MI wr g m f) ∧ Hid (∀ j, j < q → f j = ((a + j : Nat) : Int)) ∧ Hid (w.grownBy wr (some g))) (fun _ i _ => m - (intOf i).toNat)
  case atStart => exact ⟨0, a, f, by omega, rfl, by omega, rfl, (by show _ = _; omega), H, (fun j hj => absurd hj (by omega)), grown_refl _ _⟩
  case round =>
    clear H
    obtain ⟨q, r, f, hq, rfl, hr, rfl, HRR, HM, HF, HG⟩ := hrel
    by_cases hlt : q < m
    · have hp0 : (0 : Int) ≤ (q : Int) := by omega
      have hp1 : (q : Int) < (m : Int) := by omega
      obtain ⟨c0, f0⟩ := HM.out.cell hlt
      have M1 : Hid (MI (wr.setCell ⟨g, q, none⟩ (.int .i64 (r : Int))) g m (upd f q (r : Int))) := HM.out.set hlt _
      have G1 : Hid (w.grownBy (wr.setCell ⟨g, q, none⟩ (.int .i64 (r : Int))) (some g)) := grown_trans HG.out (grown_set _ _)
      have HF1 : Hid (∀ j, j < q + 1 → upd f q (r : Int) j = ((a + j : Nat) : Int)) := fun j hj => by
        by_cases e : j = q
        · subst e; rw [upd_q, HRR.out]
        · rw [upd_o _ _ e]; exact HF.out j (by omega)
      clear HM HF HG
      go_wp2_with fail
      exact ⟨⟨q + 1, r + 1, _, by omega, by go_num, by have := HRR.out; omega, by go_num, (by show _ = _; have := HRR.out; omega), M1, HF1, G1⟩, by simp [intOf]; omega⟩
    · obtain rfl : q = m := by omega
      go_wp2_with fail
      go_ret
      exact ⟨by rw [← HRR.out]; rfl, ⟨f, HM.out, HF.out⟩, HG.out⟩
set_option maxRecDepth 100000 in
set_option maxHeartbeats 3200000 in
theorem heldInts (g m cap a : Nat) (f : Nat → Int) (w : World) (h : MI w g m f) (hf : ∀ j, j < m → f j = ((a + j : Nat) : Int)) (hm : m ≤ 1048576) (ha : a ≤ 1000) :
    Calls Try.prog 44 #[.slice (some ⟨g, 0, none⟩) m cap, .int .i64 a] w fun e w' => e = .returned (.int .i64 ((a + m : Nat) : Int)) ∧ Below w.heap.size w w' := by
  have H : Hid (MI w g m f) := h
  have HF : Hid (∀ j, j < m → f j = ((a + j : Nat) : Int)) := hf
  clear h hf
  go_enter Try.func44, Try.ntmps44
  go_wp2_with fail
  go_loopw [1, 5] (fun k i wr => ∃ (q r : Nat), q ≤ m ∧ k = .int .i64 (r : Int) ∧ r ≤ 2000000 ∧ i = .int .i64 q ∧ Hid (r = a + q) ∧ Hid (Below w.heap.size w wr)) (fun _ i _ => m - (intOf i).toNat)
  case atStart => exact ⟨0, a, by omega, rfl, by omega, rfl, (by show _ = _; omega), Below.refl _ _⟩
  case round =>
    obtain ⟨q, r, hq, rfl, hr, rfl, HRR, HB⟩ := hrel
    by_cases hlt : q < m
    · have hp0 : (0 : Int) ≤ (q : Int) := by omega
      have hp1 : (q : Int) < (m : Int) := by omega
      obtain ⟨c0, _⟩ := (H.out.below HB.out).cell hlt
      rw [HF.out q hlt, ← HRR.out] at c0
      have hne : ((r : Int) != (r : Int)) = false := by simp
      go_wp2_with fail
      exact ⟨⟨q + 1, r + 1, by omega, by go_num, by have := HRR.out; omega, by go_num, (by show _ = _; have := HRR.out; omega), HB⟩, by simp [intOf]; omega⟩
    · obtain rfl : q = m := by omega
      go_wp2_with fail
      go_ret
      exact ⟨by rw [← HRR.out]; rfl, HB.out⟩
set_option maxRecDepth 100000 in
set_option maxHeartbeats 3200000 in
theorem eqReplicaS_new (v u0 : Value) (ps qs : List RV) (n : Int) (B B' : Nat) (w : World) (h : OwnQ w B v ps) (g : OwnQ w B' u0 qs) (hp : ImpP B w n ps) (hq : SpP B' w n qs) (hlen : qs.length = ps.length) (hl : ps.length ≤ 1048576) :
    Calls Try.prog 33 #[v, u0] w fun e w' => e = .returned (.bool true) ∧ Below w.heap.size w w' := by
  have HR : Hid (OwnQ w B v ps) := h
  have HG : Hid (OwnQ w B' u0 qs) := g
  have HP : Hid (ImpP B w n ps) := hp
  have HQ : Hid (SpP B' w n qs) := hq
  have HLN : Hid (qs.length = ps.length) := hlen
  obtain ⟨a, cap, rfl⟩ := OwnQ.slice h
  obtain ⟨a', cap', rfl⟩ := OwnQ.slice g
  rw [hlen]
  clear h g hp hq hlen
  have hne : ((ps.length : Int) != (ps.length : Int)) = false := by simp
  go_enter Try.func33, Try.ntmps33
  go_wp2_with fail
  go_loopw [5] (fun i wr => ∃ k : Nat, k ≤ ps.length ∧ i = .int .i64 k ∧ Hid (Below w.heap.size w wr)) (fun i _ => ps.length - (intOf i).toNat)
  case atStart => exact ⟨0, by omega, rfl, Below.refl _ _⟩
  case round =>
    obtain ⟨k, hk, rfl, HB⟩ := hrel
    by_cases hlt : k < ps.length
    · obtain ⟨p, hx⟩ := Rg.get_at hlt
      obtain ⟨q, hy⟩ := Rg.get_at (xs := qs) (k := k) (by rw [HLN.out]; exact hlt)
      obtain ⟨b, cp, cur, he, _, _, hg, hcl⟩ := (HR.out.below HB.out).at hx
      obtain ⟨b', cp', cur', he', _, _, hg', hcl'⟩ := (HG.out.below HB.out).at hy
      obtain ⟨e1, e2, ⟨e3, e4, e5, e6⟩, gs, gc, ⟨e7, e8, e9, e10⟩, _, _, hs, hc⟩ := (HP.out.below HB.out) k p hx
      obtain ⟨t1, t2, us8, us, ⟨t3, t4⟩, t5, t6⟩ := (HQ.out k q hy).below HB.out
      obtain rfl : a = some ⟨b, 0, none⟩ := by injection he
      obtain rfl : a' = some ⟨b', 0, none⟩ := by injection he'
      have rs := hs.rowE
      have rc := hc.rowE
      have qs8 := t3.row
      have qc8 := t5.row
      rw [t4] at qs8
      rw [t6] at qc8
      have c0 := (blk_cell hg (k * 8) (hcl 0 _ (by decide) rfl)).1
      have c1 := (blk_cell hg (k * 8 + 1) (hcl 1 _ (by decide) rfl)).1
      have c2 := (blk_cell hg (k * 8 + 2) (hcl 2 _ (by decide) rfl)).1
      have c3 := (blk_cell hg (k * 8 + 3) (hcl 3 _ (by decide) rfl)).1
      have c4 := (blk_cell hg (k * 8 + 4) (hcl 4 _ (by decide) rfl)).1
      have c5 := (blk_cell hg (k * 8 + 5) (hcl 5 _ (by decide) rfl)).1
      have c6 := (blk_cell hg (k * 8 + 6) (hcl 6 _ (by decide) rfl)).1
      have c7 := (blk_cell hg (k * 8 + 7) (hcl 7 _ (by decide) rfl)).1
      have d0 := (blk_cell hg' (k * 8) (hcl' 0 _ (by decide) rfl)).1
      have d1 := (blk_cell hg' (k * 8 + 1) (hcl' 1 _ (by decide) rfl)).1
      have d2 := (blk_cell hg' (k * 8 + 2) (hcl' 2 _ (by decide) rfl)).1
      have d3 := (blk_cell hg' (k * 8 + 3) (hcl' 3 _ (by decide) rfl)).1
      have d4 := (blk_cell hg' (k * 8 + 4) (hcl' 4 _ (by decide) rfl)).1
      have d5 := (blk_cell hg' (k * 8 + 5) (hcl' 5 _ (by decide) rfl)).1
      have d6 := (blk_cell hg' (k * 8 + 6) (hcl' 6 _ (by decide) rfl)).1
      have d7 := (blk_cell hg' (k * 8 + 7) (hcl' 7 _ (by decide) rfl)).1
      rw [e1] at c0
      rw [e2] at c1
      rw [e7, e8] at c4
      rw [e9, e10] at c5
      rw [e3, e4] at c6
      rw [e5, e6] at c7
      rw [t1] at d0
      rw [t2] at d1
      have HX : Hid (∀ W, Below wr.heap.size wr W → Calls Try.prog 53 #[.agg #[.int .i64 (k : Int), .int .i64 n, .int .i64 0, .bool true, .slice (some ⟨gs, 0, none⟩) 8 8, .slice (some ⟨gc, 0, none⟩) 8 8, .slice none 0 0, .slice none 0 0], .agg #[.int .i64 (k : Int), .int .i64 n, .int .i64 0, .bool true, .slice q.sa 8 q.sc, .slice q.ca 8 q.cc, .slice q.la 0 q.lc, .slice q.ma 0 q.mc]] W fun e w' => e = .returned (.bool true) ∧ Below W.heap.size W w') := fun W hW => eqRep (k : Int) n true _ _ _ _ _ _ _ _ _ _ _ _ _ W (RowG.below stays5 rs hW) (RowG.below stays5 qs8 hW) (RowG.below stays2 rc hW) (RowG.below stays2 qc8 hW) (by simp)
      clear hx hy hg hg' hcl hcl' hs hc t3 t5 rs rc qs8 qc8 e1 e2 e3 e4 e5 e6 e7 e8 e9 e10 t1 t2 t4 t6 he he'
      have hp0 : (0 : Int) ≤ (k : Int) := by omega
      have hp1 : (k : Int) < (ps.length : Int) := by omega
      go_upto_region 6 with fail
      obtain ⟨X, hX, W, QI0, QO0⟩ := Qc.klass wr
      have QI : Hid (∀ w', Below wr.heap.size wr w' → ∃ x, w' = W x) := QI0
      have QO : Hid (∀ x, Below wr.heap.size wr (W x)) := QO0
      clear QI0 QO0
      have y0 := Qc.cell_all QO.out c0
      have z0 := Qc.cell_all QO.out d0
      have y1 := Qc.cell_all QO.out c1
      have z1 := Qc.cell_all QO.out d1
      have y2 := Qc.cell_all QO.out c2
      have z2 := Qc.cell_all QO.out d2
      have y3 := Qc.cell_all QO.out c3
      have z3 := Qc.cell_all QO.out d3
      have y4 := Qc.cell_all QO.out c4
      have z4 := Qc.cell_all QO.out d4
      have y5 := Qc.cell_all QO.out c5
      have z5 := Qc.cell_all QO.out d5
      have y6 := Qc.cell_all QO.out c6
      have z6 := Qc.cell_all QO.out d6
      have y7 := Qc.cell_all QO.out c7
      have z7 := Qc.cell_all QO.out d7
      refine Qc.region_class (W := W) (by kernel_rfl) (by kernel_rfl) (QI.out _ Qc.from_drew) ?_
      repeat (go_big_quiet_step (first | (go_at_call 53; refine (HX.out _ (QO.out _)).mono ?_; rintro e w2 ⟨rfl, b2⟩; exact ⟨rfl, Qc.back QI.out QO.out b2⟩)))
      refine wpQuiet_nil ?_
      rintro _ ⟨xq, rfl⟩
      have G2 : Hid (Below w.heap.size w (W xq)) := HB.out.trans ((QO.out xq).mono HB.out.size)
      generalize W xq = wq at G2 ⊢
      go_wp2_with fail
      exact ⟨⟨k + 1, by omega, by go_num, G2⟩, by simp [intOf]; omega⟩
    · go_wp2_with fail
      go_ret
      exact ⟨rfl, HB.out⟩
set_option maxRecDepth 100000 in
set_option maxHeartbeats 3200000 in
theorem eqGroup_new (n : Int) (xs : List Int) (vf vr uf ur : Value) (g3 g4 : Option Addr) (ps qs : List RV) (B B' : Nat) (w : World) (hf : RowI w vf xs) (hu : RowI w uf xs) (h : OwnQ w B vr ps) (g : OwnQ w B' ur qs) (hp : ImpP B w n ps) (hq : SpP B' w n qs) (hlen : qs.length = ps.length) (hl : ps.length ≤ 1048576) (hx : xs.length ≤ 1048576) :
    Calls Try.prog 17 #[.agg #[.int .i64 n, vf, vr, .slice none 0 0, .slice none 0 0], .agg #[.int .i64 n, uf, ur, .slice g3 0 0, .slice g4 0 0]] w fun e w' => e = .returned (.bool true) ∧ Below w.heap.size w w' := by
  have HF : Hid (RowI w vf xs ∧ RowI w uf xs) := ⟨hf, hu⟩
  have HQ : Hid (∀ W, Below w.heap.size w W → Calls Try.prog 33 #[vr, ur] W fun e w' => e = .returned (.bool true) ∧ Below W.heap.size W w') := fun W hW => eqReplicaS_new vr ur ps qs n B B' W (h.below hW) (g.below hW) (hp.below hW) (fun k p hk => (hq k p hk).below hW) hlen hl
  have HN : Hid (∀ W, Calls Try.prog 34 #[.slice none 0 0, .slice g3 0 0] W fun e w' => e = .returned (.bool true) ∧ Below W.heap.size W w') := fun W => (eqPar_nil none g3 0 0 W).mono (by rintro e w' ⟨rfl, rfl⟩; exact ⟨rfl, Below.refl _ _⟩)
  have HM : Hid (∀ W, Calls Try.prog 35 #[.slice none 0 0, .slice g4 0 0] W fun e w' => e = .returned (.bool true) ∧ Below W.heap.size W w') := fun W => (eqMsg_nil none g4 0 0 W).mono (by rintro e w' ⟨rfl, rfl⟩; exact ⟨rfl, Below.refl _ _⟩)
  obtain ⟨s1, k1, rfl⟩ := OwnQ.slice h
  obtain ⟨s2, k2, rfl⟩ := OwnQ.slice g
  obtain ⟨s3, k3, rfl, _⟩ := hf
  obtain ⟨s4, k4, rfl, _⟩ := hu
  rw [hlen] at HQ ⊢
  clear h g hp hq hlen hl
  obtain ⟨vf, hvf⟩ : ∃ vf, Value.slice s3 xs.length k3 = vf := ⟨_, rfl⟩
  obtain ⟨uf, huf⟩ : ∃ uf, Value.slice s4 xs.length k4 = uf := ⟨_, rfl⟩
  obtain ⟨vr, hvr⟩ : ∃ vr, Value.slice s1 ps.length k1 = vr := ⟨_, rfl⟩
  obtain ⟨ur, hur⟩ : ∃ ur, Value.slice s2 ps.length k2 = ur := ⟨_, rfl⟩
  rw [hvf, huf] at HF ⊢
  rw [hvr, hur] at HQ ⊢
  clear hvf huf hvr hur
  have HC : Hid (∀ W, Below ((w.alloc (.cells #[.int .i64 n, vf, vr, .slice none 0 0, .slice none 0 0] 27)).alloc (.cells #[.int .i64 n, uf, ur, .slice g3 0 0, .slice g4 0 0] 27)).heap.size ((w.alloc (.cells #[.int .i64 n, vf, vr, .slice none 0 0, .slice none 0 0] 27)).alloc (.cells #[.int .i64 n, uf, ur, .slice g3 0 0, .slice g4 0 0] 27)) W → (W.cell? ⟨w.heap.size, 0, none⟩ = some (.int .i64 n) ∧ W.cell? ⟨w.heap.size, 1, none⟩ = some (vf) ∧ W.cell? ⟨w.heap.size, 2, none⟩ = some (vr) ∧ W.cell? ⟨w.heap.size, 3, none⟩ = some (.slice none 0 0) ∧ W.cell? ⟨w.heap.size, 4, none⟩ = some (.slice none 0 0) ∧ W.cell? ⟨w.heap.size + 1, 0, none⟩ = some (.int .i64 n) ∧ W.cell? ⟨w.heap.size + 1, 1, none⟩ = some (uf) ∧ W.cell? ⟨w.heap.size + 1, 2, none⟩ = some (ur) ∧ W.cell? ⟨w.heap.size + 1, 3, none⟩ = some (.slice g3 0 0) ∧ W.cell? ⟨w.heap.size + 1, 4, none⟩ = some (.slice g4 0 0)) ∧ Below w.heap.size w W) := fun W hW => by
    obtain ⟨h1, h2, h3⟩ := two hW
    exact ⟨⟨(blk_cell h1 0 rfl).1, (blk_cell h1 1 rfl).1, (blk_cell h1 2 rfl).1, (blk_cell h1 3 rfl).1, (blk_cell h1 4 rfl).1, (blk_cell h2 0 rfl).1, (blk_cell h2 1 rfl).1, (blk_cell h2 2 rfl).1, (blk_cell h2 3 rfl).1, (blk_cell h2 4 rfl).1⟩, h3⟩
  have q0 : (n != n) = false := by simp
  go_enter Try.func17, Try.ntmps17
  go_upto_region 1 with fail
  generalize (w.alloc (.cells #[.int .i64 n, vf, vr, .slice none 0 0, .slice none 0 0] 27)).alloc (.cells #[.int .i64 n, uf, ur, .slice g3 0 0, .slice g4 0 0] 27) = wb at HC ⊢
  obtain ⟨⟨x0, x1, x2, x3, x4, y0, y1, y2, y3, y4⟩, B0⟩ := HC.out wb (Below.refl _ _)
  have HB0 : Hid (Below w.heap.size w wb) := B0
  clear B0
  go_wp2_with fail
  refine (eqIntS_same vf uf xs wb (HF.out.1.below HB0.out) (HF.out.2.below HB0.out) hx).mono ?_
  rintro e w1 ⟨rfl, b1⟩
  have D1 : Hid (Below wb.heap.size wb w1) := b1
  clear b1 x0 x1 x2 x3 x4 y0 y1 y2 y3 y4
  obtain ⟨⟨x0, x1, x2, x3, x4, y0, y1, y2, y3, y4⟩, B0⟩ := HC.out w1 D1.out
  have HB1 : Hid (Below w.heap.size w w1) := B0
  clear B0
  go_wp2_with fail
  refine (HQ.out w1 HB1.out).mono ?_
  rintro e w2 ⟨rfl, b2⟩
  have D2 : Hid (Below wb.heap.size wb w2) := D1.out.trans (b2.mono D1.out.size)
  clear b2 x0 x1 x2 x3 x4 y0 y1 y2 y3 y4
  obtain ⟨⟨x0, x1, x2, x3, x4, y0, y1, y2, y3, y4⟩, B0⟩ := HC.out w2 D2.out
  have HB2 : Hid (Below w.heap.size w w2) := B0
  clear B0
  go_wp2_with fail
  refine (HN.out w2).mono ?_
  rintro e w3 ⟨rfl, b3⟩
  have D3 : Hid (Below wb.heap.size wb w3) := D2.out.trans (b3.mono D2.out.size)
  clear b3 x0 x1 x2 x3 x4 y0 y1 y2 y3 y4
  obtain ⟨⟨x0, x1, x2, x3, x4, y0, y1, y2, y3, y4⟩, B0⟩ := HC.out w3 D3.out
  have HB3 : Hid (Below w.heap.size w w3) := B0
  clear B0
  go_wp2_with fail
  refine (HM.out w3).mono ?_
  rintro e w4 ⟨rfl, b4⟩
  have D4 : Hid (Below wb.heap.size wb w4) := D3.out.trans (b4.mono D3.out.size)
  clear b4 x0 x1 x2 x3 x4 y0 y1 y2 y3 y4
  obtain ⟨⟨x0, x1, x2, x3, x4, y0, y1, y2, y3, y4⟩, B0⟩ := HC.out w4 D4.out
  have HB4 : Hid (Below w.heap.size w w4) := B0
  clear B0
  go_wp2_with fail
  go_ret
  exact ⟨rfl, HB4.out⟩
end Go.Proofs.Ytdhmmbbdckahmaa.Ng
