/- Copies of tables; copies that are alike. -/
import Derived.Test.YtlgfeohoebmbcaaGreatTw3
namespace Go.Proofs.YtlgfeohoebmbcaaGreat.Tw
open Go.RowKit Go.Proofs.YtlgfeohoebmbcaaGreat.Sl Go.Proofs.YtlgfeohoebmbcaaGreat.Ap Go.Proofs.YtlgfeohoebmbcaaGreat.Tx Go.Proofs.YtlgfeohoebmbcaaGreat.Tb

set_option maxRecDepth 100000 in
set_option maxHeartbeats 800000 in
theorem toTable_any (tm nx : Int) (vl vs : Value) (ls : List Lk) (ss : List Sn) (w : World) (hl : RowL w vl ls) (hs : RowS w vs ss) (h1 : ls.length ≤ 1048576) (h2 : ss.length ≤ 1048576) (h3 : ∀ x ∈ ls, x.ws.length ≤ 1048576) :
    Calls Tryz.prog 9 #[tabV tm nx vl vs] w fun e w' => ∃ ul us, e = .returned (tabV tm nx ul us) ∧ RowL w' ul ls ∧ RowS w' us ss ∧ Below w.heap.size w w' := by
  have HL : Hid (RowL w vl ls ∧ ∀ x ∈ ls, x.ws.length ≤ 1048576) := ⟨hl, h3⟩
  have HSS : Hid (RowS w vs ss) := hs
  clear hl hs h3
  unfold tabV
  have HB : Hid (∀ o0 o1 o2, Below w.heap.size w (((w.alloc o0).alloc o1).alloc o2)) := fun o0 o1 o2 => (three (Below.refl _ _)).2.2.2.2
  have HS : Hid (∀ o0 o1 o2, (((w.alloc o0).alloc o1).alloc o2).heap.size = w.heap.size + 1 + 1 + 1) := fun o0 o1 o2 => by rw [size_new, size_new, size_new]
  go_enter Tryz.func9, Tryz.ntmps9
  go_wp2_with fail
  refine (toLockS_any vl ls _ (HL.out.1.below (HB.out _ _ _)) h1 HL.out.2).mono ?_
  rintro e w1 ⟨ul0, rfl, hr, b1⟩
  obtain ⟨la, lc, rfl⟩ := RowG.slice hr
  obtain ⟨k0, k1, k2, kS, kB⟩ := three b1
  rw [HS.out] at hr
  obtain ⟨s0, t0⟩ := blk_cell k2 2 (x := .slice none 0 0) rfl
  have c3 : (w1.setCell ⟨w.heap.size + 1 + 1, 2, none⟩ (.slice la ls.length lc)).cell? ⟨w.heap.size, 3, none⟩ = some vs := by
    have h := (blk_far (k := w.heap.size) (b := w.heap.size + 1 + 1) (by omega) 2 (.slice la ls.length lc)).trans k0
    exact (blk_cell h 3 (x := vs) rfl).1
  have K1 : Hid ((w1.setCell ⟨w.heap.size + 1 + 1, 2, none⟩ (.slice la ls.length lc)).heap[w.heap.size + 1]? = some (.cells #[.int .i64 0, .int .i64 0, .slice none 0 0, .slice none 0 0] 30 (0, 0))) := (blk_far (by omega) 2 (.slice la ls.length lc)).trans k1
  have K2 : Hid ((w1.setCell ⟨w.heap.size + 1 + 1, 2, none⟩ (.slice la ls.length lc)).heap[w.heap.size + 1 + 1]? = some (.cells #[.int .i64 tm, .int .i64 nx, (.slice la ls.length lc), .slice none 0 0] 30 (0, 0))) := blk_set k2 2 (.slice la ls.length lc)
  have KB : Hid (Below w.heap.size w (w1.setCell ⟨w.heap.size + 1 + 1, 2, none⟩ (.slice la ls.length lc))) := Below.setCell kB (p := ⟨w.heap.size + 1 + 1, 2, none⟩) (by show _ ≤ w.heap.size + 1 + 1; omega) (.slice la ls.length lc)
  have KR : Hid (RowLA (w.heap.size + 1 + 1 + 1) (w1.setCell ⟨w.heap.size + 1 + 1, 2, none⟩ (.slice la ls.length lc)) (.slice la ls.length lc) ls) := hr.keep ((Abv.refl _ _).set (by omega) _)
  have KZ : Hid (w.heap.size + 1 + 1 + 1 ≤ ((w1.setCell ⟨w.heap.size + 1 + 1, 2, none⟩ (.slice la ls.length lc))).heap.size) := by show _ ≤ _; simpa using kS
  clear b1 k0 k1 k2 kB kS hr HB HS
  go_upto_region 5 with fail
  generalize (w1.setCell ⟨w.heap.size + 1 + 1, 2, none⟩ (.slice la ls.length lc)) = w2 at c3 K1 K2 KB KR KZ ⊢
  clear s0 t0
  go_wp2_with fail
  refine (toSeenS_any vs ss w2 (HSS.out.below KB.out) h2).mono ?_
  rintro e w3 ⟨g, rfl, hg0, hg1, hr, b3⟩
  obtain ⟨us, HUS⟩ : ∃ us, us = Value.slice (some ⟨g, 0, none⟩) ss.length ss.length := ⟨_, rfl⟩
  have KR3 : Hid (RowLA (w.heap.size + 1 + 1 + 1) w3 (.slice la ls.length lc) ls ∧ RowSA (w.heap.size + 1 + 1 + 1) w3 us ss) := ⟨KR.out.keep (Abv.of b3), ⟨some ⟨g, 0, none⟩, ss.length, HUS, .inr ⟨g, 0, rfl, Nat.le_refl _, hg1, fun i x hi => by rw [Nat.zero_add]; exact ⟨by have := KZ.out; omega, hr i x hi⟩⟩⟩⟩
  have K13 : Hid (w3.heap[w.heap.size + 1]? = some (.cells #[.int .i64 0, .int .i64 0, .slice none 0 0, .slice none 0 0] 30 (0, 0))) := (b3.block _ (by have := KZ.out; omega)).trans K1.out
  have K23 : Hid (w3.heap[w.heap.size + 1 + 1]? = some (.cells #[.int .i64 tm, .int .i64 nx, (.slice la ls.length lc), .slice none 0 0] 30 (0, 0))) := (b3.block _ (by have := KZ.out; omega)).trans K2.out
  have KB3 : Hid (Below w.heap.size w w3) := KB.out.trans (b3.mono KB.out.size)
  clear hr hg0 hg1 b3 K1 K2 KB KR KZ c3
  have K1 := K13
  have K2 := K23
  have KB := KB3
  have KR := KR3
  clear K13 K23 KB3 KR3
  subst HUS
  obtain ⟨s0, t0⟩ := blk_cell K2.out 3 (x := .slice none 0 0) rfl
  have B2 : Hid ((w3.setCell ⟨w.heap.size + 1 + 1, 3, none⟩ ((.slice (some ⟨g, 0, none⟩) ss.length ss.length))).heap[w.heap.size + 1 + 1]? = some (.cells #[.int .i64 tm, .int .i64 nx, (.slice la ls.length lc), (.slice (some ⟨g, 0, none⟩) ss.length ss.length)] 30 (0, 0))) := (blk_set K2.out 3 ((.slice (some ⟨g, 0, none⟩) ss.length ss.length)))
  have A2 : Hid ((w3.setCell ⟨w.heap.size + 1 + 1, 3, none⟩ ((.slice (some ⟨g, 0, none⟩) ss.length ss.length))).heap[w.heap.size + 1]? = some (.cells #[.int .i64 0, .int .i64 0, .slice none 0 0, .slice none 0 0] 30 (0, 0))) := ((blk_far (by omega) 3 ((.slice (some ⟨g, 0, none⟩) ss.length ss.length))).trans K1.out)
  have G2 : Hid (Below w.heap.size w (w3.setCell ⟨w.heap.size + 1 + 1, 3, none⟩ ((.slice (some ⟨g, 0, none⟩) ss.length ss.length)))) := (Below.setCell KB.out (p := ⟨w.heap.size + 1 + 1, 3, none⟩) (by show _ ≤ w.heap.size + 1 + 1; omega) ((.slice (some ⟨g, 0, none⟩) ss.length ss.length)))
  have R2 : Hid (RowLA (w.heap.size + 1 + 1 + 1) (w3.setCell ⟨w.heap.size + 1 + 1, 3, none⟩ ((.slice (some ⟨g, 0, none⟩) ss.length ss.length))) (.slice la ls.length lc) ls ∧ RowSA (w.heap.size + 1 + 1 + 1) (w3.setCell ⟨w.heap.size + 1 + 1, 3, none⟩ ((.slice (some ⟨g, 0, none⟩) ss.length ss.length))) (.slice (some ⟨g, 0, none⟩) ss.length ss.length) ss) := ⟨KR.out.1.keep ((Abv.refl _ _).set (by omega) _), KR.out.2.keep ((Abv.refl _ _).set (by omega) _)⟩
  clear K1 K2 KR
  go_upto_region 6 with fail
  generalize (w3.setCell ⟨w.heap.size + 1 + 1, 3, none⟩ ((.slice (some ⟨g, 0, none⟩) ss.length ss.length))) = w9 at B2 A2 G2 R2 ⊢
  have p0 := (blk_cell B2.out 0 (x := .int .i64 tm) rfl).1
  have p1 := (blk_cell B2.out 1 (x := .int .i64 nx) rfl).1
  have p2 := (blk_cell B2.out 2 (x := (.slice la ls.length lc)) rfl).1
  have p3 := (blk_cell B2.out 3 (x := (.slice (some ⟨g, 0, none⟩) ss.length ss.length)) rfl).1
  obtain ⟨m0, n0⟩ := blk_cell A2.out 0 (x := .int .i64 0) rfl
  obtain ⟨m1, n1⟩ := blk_cell A2.out 1 (x := .int .i64 0) rfl
  obtain ⟨m2, n2⟩ := blk_cell A2.out 2 (x := .slice none 0 0) rfl
  obtain ⟨m3, n3⟩ := blk_cell A2.out 3 (x := .slice none 0 0) rfl
  have AF : ((((w9.setCell ⟨w.heap.size + 1, 0, none⟩ (.int .i64 tm)).setCell ⟨w.heap.size + 1, 1, none⟩ (.int .i64 nx)).setCell ⟨w.heap.size + 1, 2, none⟩ ((.slice la ls.length lc))).setCell ⟨w.heap.size + 1, 3, none⟩ ((.slice (some ⟨g, 0, none⟩) ss.length ss.length))).heap[w.heap.size + 1]? = some (.cells #[.int .i64 tm, .int .i64 nx, (.slice la ls.length lc), (.slice (some ⟨g, 0, none⟩) ss.length ss.length)] 30 (0, 0)) := (blk_set (blk_set (blk_set (blk_set A2.out 0 (.int .i64 tm)) 1 (.int .i64 nx)) 2 ((.slice la ls.length lc))) 3 ((.slice (some ⟨g, 0, none⟩) ss.length ss.length)))
  have RF : Hid (RowL ((((w9.setCell ⟨w.heap.size + 1, 0, none⟩ (.int .i64 tm)).setCell ⟨w.heap.size + 1, 1, none⟩ (.int .i64 nx)).setCell ⟨w.heap.size + 1, 2, none⟩ ((.slice la ls.length lc))).setCell ⟨w.heap.size + 1, 3, none⟩ ((.slice (some ⟨g, 0, none⟩) ss.length ss.length))) (.slice la ls.length lc) ls ∧ RowS ((((w9.setCell ⟨w.heap.size + 1, 0, none⟩ (.int .i64 tm)).setCell ⟨w.heap.size + 1, 1, none⟩ (.int .i64 nx)).setCell ⟨w.heap.size + 1, 2, none⟩ ((.slice la ls.length lc))).setCell ⟨w.heap.size + 1, 3, none⟩ ((.slice (some ⟨g, 0, none⟩) ss.length ss.length))) (.slice (some ⟨g, 0, none⟩) ss.length ss.length) ss) := ⟨(R2.out.1.keep (Abv.set (Abv.set (Abv.set (Abv.set (Abv.refl _ _) (by omega) _) (by omega) _) (by omega) _) (by omega) _)).row, (R2.out.2.keep (Abv.set (Abv.set (Abv.set (Abv.set (Abv.refl _ _) (by omega) _) (by omega) _) (by omega) _) (by omega) _)).row⟩
  have GF : Below w.heap.size w ((((w9.setCell ⟨w.heap.size + 1, 0, none⟩ (.int .i64 tm)).setCell ⟨w.heap.size + 1, 1, none⟩ (.int .i64 nx)).setCell ⟨w.heap.size + 1, 2, none⟩ ((.slice la ls.length lc))).setCell ⟨w.heap.size + 1, 3, none⟩ ((.slice (some ⟨g, 0, none⟩) ss.length ss.length))) := (Below.setCell (Below.setCell (Below.setCell (Below.setCell G2.out (p := ⟨w.heap.size + 1, 0, none⟩) (by show _ ≤ w.heap.size + 1; omega) (.int .i64 tm)) (p := ⟨w.heap.size + 1, 1, none⟩) (by show _ ≤ w.heap.size + 1; omega) (.int .i64 nx)) (p := ⟨w.heap.size + 1, 2, none⟩) (by show _ ≤ w.heap.size + 1; omega) ((.slice la ls.length lc))) (p := ⟨w.heap.size + 1, 3, none⟩) (by show _ ≤ w.heap.size + 1; omega) ((.slice (some ⟨g, 0, none⟩) ss.length ss.length)))
  go_wp2_with fail
  generalize ((((w9.setCell ⟨w.heap.size + 1, 0, none⟩ (.int .i64 tm)).setCell ⟨w.heap.size + 1, 1, none⟩ (.int .i64 nx)).setCell ⟨w.heap.size + 1, 2, none⟩ ((.slice la ls.length lc))).setCell ⟨w.heap.size + 1, 3, none⟩ ((.slice (some ⟨g, 0, none⟩) ss.length ss.length))) = wf at AF GF RF ⊢
  have d0 := (blk_cell AF 0 (x := .int .i64 tm) rfl).1
  have d1 := (blk_cell AF 1 (x := .int .i64 nx) rfl).1
  have d2 := (blk_cell AF 2 (x := (.slice la ls.length lc)) rfl).1
  have d3 := (blk_cell AF 3 (x := (.slice (some ⟨g, 0, none⟩) ss.length ss.length)) rfl).1
  exact bodyPost_ret (v := tabV tm nx (.slice la ls.length lc) (.slice (some ⟨g, 0, none⟩) ss.length ss.length)) (by simp [tabV, results, Tryz.results9, go_sem, d0, d1, d2, d3]) rfl ⟨(.slice la ls.length lc), _, rfl, RF.out.1, RF.out.2, GF⟩
theorem two_new (w : World) (o0 o1 : Obj) : Below w.heap.size w ((w.alloc o0).alloc o1) := ((Below.refl _ _).alloc (Nat.le_refl _) _).alloc (by simp) _
theorem two {w w1 : World} {o0 o1 : Obj} (b : Below ((w.alloc o0).alloc o1).heap.size ((w.alloc o0).alloc o1) w1) :
    w1.heap[w.heap.size]? = some o0 ∧ w1.heap[w.heap.size + 1]? = some o1 ∧ Below w.heap.size w w1 := by
  have e1 : (w.alloc o0).heap.size = w.heap.size + 1 := size_new _ _
  have e2 : ((w.alloc o0).alloc o1).heap.size = w.heap.size + 1 + 1 := by rw [size_new, e1]
  have b1 := two_new w o0 o1
  rw [e2] at b
  refine ⟨?_, ?_, b1.trans (b.mono (by omega))⟩
  · rw [b.block _ (by omega), Below.heap_alloc _ _ _ (by omega)]; exact heap_alloc_new w _
  · rw [b.block _ (by omega), ← e1]; exact heap_alloc_new _ _
set_option maxRecDepth 100000 in
set_option maxHeartbeats 800000 in
theorem eqWaiter_same (x : Wt) (w : World) :
    Calls Tryz.prog 127 #[wtV x, wtV x] w fun e w' => e = .returned (.bool true) ∧ Below w.heap.size w w' := by
  unfold wtV
  have e0 : (x.c != x.c) = false := by simp
  have e1 : (x.l != x.l) = false := by simp
  go_enter Tryz.func127, Tryz.ntmps127
  go_wp2_with fail
  go_ret
  exact ⟨rfl, two_new _ _ _⟩
set_option maxRecDepth 100000 in
set_option maxHeartbeats 800000 in
theorem eqAnswer_same (k t h e0 : Int) (w : World) :
    Calls Tryz.prog 18 #[.agg #[.int .i64 k, .int .i64 t, .int .i64 h, .int .i64 e0], .agg #[.int .i64 k, .int .i64 t, .int .i64 h, .int .i64 e0]] w fun e w' => e = .returned (.bool true) ∧ Below w.heap.size w w' := by
  have q0 : (k != k) = false := by simp
  have q1 : (t != t) = false := by simp
  have q2 : (h != h) = false := by simp
  have q3 : (e0 != e0) = false := by simp
  go_enter Tryz.func18, Tryz.ntmps18
  go_wp2_with fail
  go_ret
  exact ⟨rfl, two_new _ _ _⟩
set_option maxRecDepth 100000 in
set_option maxHeartbeats 800000 in
theorem eqSeen_same (x : Sn) (w : World) :
    Calls Tryz.prog 78 #[snV x, snV x] w fun e w' => e = .returned (.bool true) ∧ Below w.heap.size w w' := by
  unfold snV
  have q0 : (x.c != x.c) = false := by simp
  have q1 : (x.s != x.s) = false := by simp
  go_enter Tryz.func78, Tryz.ntmps78
  go_wp2_with fail
  refine (eqAnswer_same x.k x.t x.h x.e _).mono ?_
  rintro e w1 ⟨rfl, b1⟩
  have g1 := (two b1).2.2
  clear b1
  go_wp2_with fail
  go_ret
  exact ⟨rfl, g1⟩
set_option maxRecDepth 100000 in
set_option maxHeartbeats 800000 in
theorem eqWaiterS_same (v u0 : Value) (xs : List Wt) (w : World) (h : RowW w v xs) (g : RowW w u0 xs) (hl : xs.length ≤ 1048576) :
    Calls Tryz.prog 103 #[v, u0] w fun e w' => e = .returned (.bool true) ∧ Below w.heap.size w w' := by
  have HR : Hid (RowW w v xs) := h
  have HG : Hid (RowW w u0 xs) := g
  obtain ⟨a, cap, rfl⟩ := RowG.slice h
  obtain ⟨a', cap', rfl⟩ := RowG.slice g
  clear h g
  have hne : ((xs.length : Int) != (xs.length : Int)) = false := by simp
  go_enter Tryz.func103, Tryz.ntmps103
  go_wp2_with fail
  go_loopw [5] (fun i wr => ∃ k : Nat, k ≤ xs.length ∧ i = .int .i64 k ∧ Hid (Below w.heap.size w wr)) (fun i _ => xs.length - (intOf i).toNat)
  case atStart => exact ⟨0, by omega, rfl, Below.refl _ _⟩
  case round =>
    obtain ⟨k, hk, rfl, HB⟩ := hrel
    by_cases hlt : k < xs.length
    · obtain ⟨x, hx⟩ := get_at hlt
      obtain ⟨b, off, rfl, hb, c0, c1⟩ := RowG.at (HR.out.below HB.out) rfl hx
      obtain ⟨b', off', rfl, hb', d0, d1⟩ := RowG.at (HG.out.below HB.out) rfl hx
      have HK : Hid (xs[k]? = some x) := hx
      clear hx
      have hp0 : (0 : Int) ≤ (k : Int) := by omega
      have hp1 : (k : Int) < (xs.length : Int) := by omega
      go_upto_region 6 with fail
      obtain ⟨X, hX, W, QI0, QO0⟩ := Qc.klass wr
      have QI : Hid (∀ w', Below wr.heap.size wr w' → ∃ x, w' = W x) := QI0
      have QO : Hid (∀ x, Below wr.heap.size wr (W x)) := QO0
      clear QI0 QO0
      have y0 := Qc.cell_all QO.out c0
      have z0 := Qc.cell_all QO.out d0
      have y1 := Qc.cell_all QO.out c1
      have z1 := Qc.cell_all QO.out d1
      refine Qc.region_class (W := W) (by kernel_rfl) (by kernel_rfl) (QI.out _ Qc.from_drew) ?_
      repeat (go_big_quiet_step (first | (go_at_call 127; refine (eqWaiter_same x _).mono ?_; rintro e w2 ⟨rfl, b2⟩; exact ⟨rfl, Qc.back QI.out QO.out b2⟩)))
      refine wpQuiet_nil ?_
      rintro _ ⟨xq, rfl⟩
      have G2 : Hid (Below w.heap.size w (W xq)) := HB.out.trans ((QO.out xq).mono HB.out.size)
      generalize W xq = wq at G2 ⊢
      go_wp2_with fail
      exact ⟨⟨k + 1, by omega, by go_num, G2⟩, by simp [intOf]; omega⟩
    · go_wp2_with fail
      go_ret
      exact ⟨rfl, HB.out⟩
set_option maxRecDepth 100000 in
set_option maxHeartbeats 800000 in
theorem eqSeenS_same (v u0 : Value) (xs : List Sn) (w : World) (h : RowS w v xs) (g : RowS w u0 xs) (hl : xs.length ≤ 1048576) :
    Calls Tryz.prog 49 #[v, u0] w fun e w' => e = .returned (.bool true) ∧ Below w.heap.size w w' := by
  have HR : Hid (RowS w v xs) := h
  have HG : Hid (RowS w u0 xs) := g
  obtain ⟨a, cap, rfl⟩ := RowG.slice h
  obtain ⟨a', cap', rfl⟩ := RowG.slice g
  clear h g
  have hne : ((xs.length : Int) != (xs.length : Int)) = false := by simp
  go_enter Tryz.func49, Tryz.ntmps49
  go_wp2_with fail
  go_loopw [5] (fun i wr => ∃ k : Nat, k ≤ xs.length ∧ i = .int .i64 k ∧ Hid (Below w.heap.size w wr)) (fun i _ => xs.length - (intOf i).toNat)
  case atStart => exact ⟨0, by omega, rfl, Below.refl _ _⟩
  case round =>
    obtain ⟨k, hk, rfl, HB⟩ := hrel
    by_cases hlt : k < xs.length
    · obtain ⟨x, hx⟩ := get_at hlt
      obtain ⟨b, off, rfl, hb, c0, c1, c2, c3, c4, c5⟩ := RowG.at (HR.out.below HB.out) rfl hx
      obtain ⟨b', off', rfl, hb', d0, d1, d2, d3, d4, d5⟩ := RowG.at (HG.out.below HB.out) rfl hx
      have HK : Hid (xs[k]? = some x) := hx
      clear hx
      have hp0 : (0 : Int) ≤ (k : Int) := by omega
      have hp1 : (k : Int) < (xs.length : Int) := by omega
      go_upto_region 6 with fail
      obtain ⟨X, hX, W, QI0, QO0⟩ := Qc.klass wr
      have QI : Hid (∀ w', Below wr.heap.size wr w' → ∃ x, w' = W x) := QI0
      have QO : Hid (∀ x, Below wr.heap.size wr (W x)) := QO0
      clear QI0 QO0
      have y0 := Qc.cell_all QO.out c0
      have z0 := Qc.cell_all QO.out d0
      have y1 := Qc.cell_all QO.out c1
      have z1 := Qc.cell_all QO.out d1
      have y2 := Qc.cell_all QO.out c2
      have z2 := Qc.cell_all QO.out d2
      have y3 := Qc.cell_all QO.out c3
      have z3 := Qc.cell_all QO.out d3
      have y4 := Qc.cell_all QO.out c4
      have z4 := Qc.cell_all QO.out d4
      have y5 := Qc.cell_all QO.out c5
      have z5 := Qc.cell_all QO.out d5
      refine Qc.region_class (W := W) (by kernel_rfl) (by kernel_rfl) (QI.out _ Qc.from_drew) ?_
      repeat (go_big_quiet_step (first | (go_at_call 78; refine (eqSeen_same x _).mono ?_; rintro e w2 ⟨rfl, b2⟩; exact ⟨rfl, Qc.back QI.out QO.out b2⟩)))
      refine wpQuiet_nil ?_
      rintro _ ⟨xq, rfl⟩
      have G2 : Hid (Below w.heap.size w (W xq)) := HB.out.trans ((QO.out xq).mono HB.out.size)
      generalize W xq = wq at G2 ⊢
      go_wp2_with fail
      exact ⟨⟨k + 1, by omega, by go_num, G2⟩, by simp [intOf]; omega⟩
    · go_wp2_with fail
      go_ret
      exact ⟨rfl, HB.out⟩
set_option maxRecDepth 100000 in
set_option maxHeartbeats 800000 in
theorem eqLock_same (x : Lk) (u u' : Value) (w : World) (h : RowW w u x.ws) (g : RowW w u' x.ws) (hl : x.ws.length ≤ 1048576) :
    Calls Tryz.prog 77 #[lkV x u, lkV x u'] w fun e w' => e = .returned (.bool true) ∧ Below w.heap.size w w' := by
  have HR : Hid (RowW w u x.ws ∧ RowW w u' x.ws) := ⟨h, g⟩
  have HB : Hid (∀ o0 o1, Below w.heap.size w ((w.alloc o0).alloc o1)) := fun o0 o1 => two_new _ _ _
  clear h g
  unfold lkV
  have q0 : (x.n.toList != x.n.toList) = false := by simp
  have q1 : (x.t != x.t) = false := by simp
  have q2 : (x.h != x.h) = false := by simp
  have q3 : (x.e != x.e) = false := by simp
  go_enter Tryz.func77, Tryz.ntmps77
  go_wp2_with fail
  refine (eqWaiterS_same u u' x.ws _ (HR.out.1.below (HB.out _ _)) (HR.out.2.below (HB.out _ _)) hl).mono ?_
  rintro e w1 ⟨rfl, b1⟩
  have g1 := (two b1).2.2
  clear b1
  go_wp2_with fail
  go_ret
  exact ⟨rfl, g1⟩
set_option maxRecDepth 100000 in
set_option maxHeartbeats 800000 in
theorem eqLockS_same (v u0 : Value) (xs : List Lk) (w : World) (h : RowL w v xs) (g : RowL w u0 xs) (hl : xs.length ≤ 1048576) (hw : ∀ x ∈ xs, x.ws.length ≤ 1048576) :
    Calls Tryz.prog 48 #[v, u0] w fun e w' => e = .returned (.bool true) ∧ Below w.heap.size w w' := by
  have HR : Hid (RowL w v xs) := h
  have HG : Hid (RowL w u0 xs) := g
  have HW : Hid (∀ x ∈ xs, x.ws.length ≤ 1048576) := hw
  clear hw
  obtain ⟨a, cap, rfl⟩ := RowG.slice h
  obtain ⟨a', cap', rfl⟩ := RowG.slice g
  clear h g
  have hne : ((xs.length : Int) != (xs.length : Int)) = false := by simp
  go_enter Tryz.func48, Tryz.ntmps48
  go_wp2_with fail
  go_loopw [5] (fun i wr => ∃ k : Nat, k ≤ xs.length ∧ i = .int .i64 k ∧ Hid (Below w.heap.size w wr)) (fun i _ => xs.length - (intOf i).toNat)
  case atStart => exact ⟨0, by omega, rfl, Below.refl _ _⟩
  case round =>
    obtain ⟨k, hk, rfl, HB⟩ := hrel
    by_cases hlt : k < xs.length
    · obtain ⟨x, hx⟩ := get_at hlt
      obtain ⟨b, off, rfl, hb, u, c0, c1, c2, c3, c4, cr⟩ := RowG.at (HR.out.below HB.out) rfl hx
      obtain ⟨b', off', rfl, hb', u', d0, d1, d2, d3, d4, dr⟩ := RowG.at (HG.out.below HB.out) rfl hx
      have HK : Hid (xs[k]? = some x) := hx
      clear hx
      have hp0 : (0 : Int) ≤ (k : Int) := by omega
      have hp1 : (k : Int) < (xs.length : Int) := by omega
      go_upto_region 6 with fail
      obtain ⟨X, hX, W, QI0, QO0⟩ := Qc.klass wr
      have QI : Hid (∀ w', Below wr.heap.size wr w' → ∃ x, w' = W x) := QI0
      have QO : Hid (∀ x, Below wr.heap.size wr (W x)) := QO0
      clear QI0 QO0
      have y0 := Qc.cell_all QO.out c0
      have z0 := Qc.cell_all QO.out d0
      have y1 := Qc.cell_all QO.out c1
      have z1 := Qc.cell_all QO.out d1
      have y2 := Qc.cell_all QO.out c2
      have z2 := Qc.cell_all QO.out d2
      have y3 := Qc.cell_all QO.out c3
      have z3 := Qc.cell_all QO.out d3
      have y4 := Qc.cell_all QO.out c4
      have z4 := Qc.cell_all QO.out d4
      have HX : Hid (∀ x', RowW (W x') u x.ws ∧ RowW (W x') u' x.ws) := fun x' => ⟨cr.below (QO.out x'), dr.below (QO.out x')⟩
      clear cr dr
      refine Qc.region_class (W := W) (by kernel_rfl) (by kernel_rfl) (QI.out _ Qc.from_drew) ?_
      repeat (go_big_quiet_step (first | (go_at_call 77; refine (eqLock_same x u u' _ (HX.out _).1 (HX.out _).2 (HW.out _ (mem_at HK.out))).mono ?_; rintro e w2 ⟨rfl, b2⟩; exact ⟨rfl, Qc.back QI.out QO.out b2⟩)))
      refine wpQuiet_nil ?_
      rintro _ ⟨xq, rfl⟩
      have G2 : Hid (Below w.heap.size w (W xq)) := HB.out.trans ((QO.out xq).mono HB.out.size)
      generalize W xq = wq at G2 ⊢
      go_wp2_with fail
      exact ⟨⟨k + 1, by omega, by go_num, G2⟩, by simp [intOf]; omega⟩
    · go_wp2_with fail
      go_ret
      exact ⟨rfl, HB.out⟩
set_option maxRecDepth 100000 in
set_option maxHeartbeats 800000 in
theorem eqTable_same (tm nx : Int) (vl vs ul us : Value) (ls : List Lk) (ss : List Sn) (w : World) (hl : RowL w vl ls) (hs : RowS w vs ss) (gl : RowL w ul ls) (gs : RowS w us ss) (h1 : ls.length ≤ 1048576) (h2 : ss.length ≤ 1048576) (h3 : ∀ x ∈ ls, x.ws.length ≤ 1048576) :
    Calls Tryz.prog 11 #[tabV tm nx vl vs, tabV tm nx ul us] w fun e w' => e = .returned (.bool true) ∧ Below w.heap.size w w' := by
  have HR : Hid (RowL w vl ls ∧ RowL w ul ls ∧ RowS w vs ss ∧ RowS w us ss) := ⟨hl, gl, hs, gs⟩
  have HW : Hid (∀ x ∈ ls, x.ws.length ≤ 1048576) := h3
  have HB : Hid (∀ o0 o1, Below w.heap.size w ((w.alloc o0).alloc o1)) := fun o0 o1 => two_new _ _ _
  clear hl hs gl gs h3
  unfold tabV
  have q0 : (tm != tm) = false := by simp
  have q1 : (nx != nx) = false := by simp
  go_enter Tryz.func11, Tryz.ntmps11
  go_wp2_with fail
  refine (eqLockS_same vl ul ls _ (HR.out.1.below (HB.out _ _)) (HR.out.2.1.below (HB.out _ _)) h1 HW.out).mono ?_
  rintro e w1 ⟨rfl, b1⟩
  obtain ⟨k0, k1, kb⟩ := two b1
  have c0 := (blk_cell k0 3 (x := vs) rfl).1
  have c1 := (blk_cell k1 3 (x := us) rfl).1
  have KB : Hid (Below w.heap.size w w1) := kb
  clear b1 k0 k1 kb
  go_wp2_with fail
  refine (eqSeenS_same vs us ss _ (HR.out.2.2.1.below KB.out) (HR.out.2.2.2.below KB.out) h2).mono ?_
  rintro e w2 ⟨rfl, b2⟩
  have g2 := KB.out.trans (b2.mono KB.out.size)
  clear b2
  go_wp2_with fail
  go_ret
  exact ⟨rfl, g2⟩
end Go.Proofs.YtlgfeohoebmbcaaGreat.Tw
