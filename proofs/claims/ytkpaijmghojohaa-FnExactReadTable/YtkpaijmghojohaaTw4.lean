/- Copies of tables; copies that are alike. -/
import Derived.Test.YtkpaijmghojohaaTw3
namespace Go.Proofs.Ytkpaijmghojohaa.Tw
open Go.RowKit Go.Proofs.Ytkpaijmghojohaa.Sl Go.Proofs.Ytkpaijmghojohaa.Ap Go.Proofs.Ytkpaijmghojohaa.Tx Go.Proofs.Ytkpaijmghojohaa.Tb

theorem two_new (w : World) (o0 o1 : Obj) : Below w.heap.size w ((w.alloc o0).alloc o1) := ((Below.refl _ _).alloc (Nat.le_refl _) _).alloc (by simp) _
theorem two {w w1 : World} {o0 o1 : Obj} (b : Below ((w.alloc o0).alloc o1).heap.size ((w.alloc o0).alloc o1) w1) :
    w1.heap[w.heap.size]? = some o0 ∧ w1.heap[w.heap.size + 1]? = some o1 ∧ Below w.heap.size w w1 := by
  have e1 : (w.alloc o0).heap.size = w.heap.size + 1 := size_new _ _
  have e2 : ((w.alloc o0).alloc o1).heap.size = w.heap.size + 1 + 1 := by rw [size_new, e1]
  have b1 := two_new w o0 o1
  rw [e2] at b
  refine ⟨?_, ?_, b1.trans (b.mono (by omega))⟩
  · rw [b.block _ (by omega), Below.heap_alloc _ _ _ (by omega)]; exact heap_alloc_new w _
  · rw [b.block _ (by omega), ← e1]; exact heap_alloc_new _ _
set_option maxRecDepth 100000 in
set_option maxHeartbeats 800000 in
theorem eqWaiter_same (x : Wt) (w : World) :
    Calls Try.prog 50 #[wtV x, wtV x] w fun e w' => e = .returned (.bool true) ∧ Below w.heap.size w w' := by
  unfold wtV
  have e0 : (x.c != x.c) = false := by simp
  have e1 : (x.l != x.l) = false := by simp
  go_enter Try.func50, Try.ntmps50
  go_wp2_with fail
  go_ret
  exact ⟨rfl, two_new _ _ _⟩
set_option maxRecDepth 100000 in
set_option maxHeartbeats 800000 in
theorem eqAnswer_same (k t h e0 : Int) (w : World) :
    Calls Try.prog 46 #[.agg #[.int .i64 k, .int .i64 t, .int .i64 h, .int .i64 e0], .agg #[.int .i64 k, .int .i64 t, .int .i64 h, .int .i64 e0]] w fun e w' => e = .returned (.bool true) ∧ Below w.heap.size w w' := by
  have q0 : (k != k) = false := by simp
  have q1 : (t != t) = false := by simp
  have q2 : (h != h) = false := by simp
  have q3 : (e0 != e0) = false := by simp
  go_enter Try.func46, Try.ntmps46
  go_wp2_with fail
  go_ret
  exact ⟨rfl, two_new _ _ _⟩
set_option maxRecDepth 100000 in
set_option maxHeartbeats 800000 in
theorem eqSeen_same (x : Sn) (w : World) :
    Calls Try.prog 32 #[snV x, snV x] w fun e w' => e = .returned (.bool true) ∧ Below w.heap.size w w' := by
  unfold snV
  have q0 : (x.c != x.c) = false := by simp
  have q1 : (x.s != x.s) = false := by simp
  go_enter Try.func32, Try.ntmps32
  go_wp2_with fail
  refine (eqAnswer_same x.k x.t x.h x.e _).mono ?_
  rintro e w1 ⟨rfl, b1⟩
  have g1 := (two b1).2.2
  clear b1
  go_wp2_with fail
  go_ret
  exact ⟨rfl, g1⟩
set_option maxRecDepth 100000 in
set_option maxHeartbeats 800000 in
theorem eqWaiterS_same (v u0 : Value) (xs : List Wt) (w : World) (h : RowW w v xs) (g : RowW w u0 xs) (hl : xs.length ≤ 1048576) :
    Calls Try.prog 45 #[v, u0] w fun e w' => e = .returned (.bool true) ∧ Below w.heap.size w w' := by
  have HR : Hid (RowW w v xs) := h
  have HG : Hid (RowW w u0 xs) := g
  obtain ⟨a, cap, rfl⟩ := RowG.slice h
  obtain ⟨a', cap', rfl⟩ := RowG.slice g
  clear h g
  have hne : ((xs.length : Int) != (xs.length : Int)) = false := by simp
  go_enter Try.func45, Try.ntmps45
  go_wp2_with fail
  go_loopw [5] (fun i wr => ∃ k : Nat, k ≤ xs.length ∧ i = .int .i64 k ∧ Hid (Below w.heap.size w wr)) (fun i _ => xs.length - (intOf i).toNat)
  case atStart => exact ⟨0, by omega, rfl, Below.refl _ _⟩
  case round =>
    obtain ⟨k, hk, rfl, HB⟩ := hrel
    by_cases hlt : k < xs.length
    · obtain ⟨x, hx⟩ := get_at hlt
      obtain ⟨b, off, rfl, hb, c0, c1⟩ := RowG.at (HR.out.below HB.out) rfl hx
      obtain ⟨b', off', rfl, hb', d0, d1⟩ := RowG.at (HG.out.below HB.out) rfl hx
      have HK : Hid (xs[k]? = some x) := hx
      clear hx
      have hp0 : (0 : Int) ≤ (k : Int) := by omega
      have hp1 : (k : Int) < (xs.length : Int) := by omega
      go_upto_region 6 with fail
      obtain ⟨X, hX, W, QI0, QO0⟩ := Qc.klass wr
      have QI : Hid (∀ w', Below wr.heap.size wr w' → ∃ x, w' = W x) := QI0
      have QO : Hid (∀ x, Below wr.heap.size wr (W x)) := QO0
      clear QI0 QO0
      have y0 := Qc.cell_all QO.out c0
      have z0 := Qc.cell_all QO.out d0
      have y1 := Qc.cell_all QO.out c1
      have z1 := Qc.cell_all QO.out d1
      refine Qc.region_class (W := W) (by kernel_rfl) (by kernel_rfl) (QI.out _ Qc.from_drew) ?_
      repeat (go_big_quiet_step (first | (go_at_call 50; refine (eqWaiter_same x _).mono ?_; rintro e w2 ⟨rfl, b2⟩; exact ⟨rfl, Qc.back QI.out QO.out b2⟩)))
      refine wpQuiet_nil ?_
      rintro _ ⟨xq, rfl⟩
      have G2 : Hid (Below w.heap.size w (W xq)) := HB.out.trans ((QO.out xq).mono HB.out.size)
      generalize W xq = wq at G2 ⊢
      go_wp2_with fail
      exact ⟨⟨k + 1, by omega, by go_num, G2⟩, by simp [intOf]; omega⟩
    · go_wp2_with fail
      go_ret
      exact ⟨rfl, HB.out⟩
set_option maxRecDepth 100000 in
set_option maxHeartbeats 800000 in
theorem eqSeenS_same (v u0 : Value) (xs : List Sn) (w : World) (h : RowS w v xs) (g : RowS w u0 xs) (hl : xs.length ≤ 1048576) :
    Calls Try.prog 17 #[v, u0] w fun e w' => e = .returned (.bool true) ∧ Below w.heap.size w w' := by
  have HR : Hid (RowS w v xs) := h
  have HG : Hid (RowS w u0 xs) := g
  obtain ⟨a, cap, rfl⟩ := RowG.slice h
  obtain ⟨a', cap', rfl⟩ := RowG.slice g
  clear h g
  have hne : ((xs.length : Int) != (xs.length : Int)) = false := by simp
  go_enter Try.func17, Try.ntmps17
  go_wp2_with fail
  go_loopw [5] (fun i wr => ∃ k : Nat, k ≤ xs.length ∧ i = .int .i64 k ∧ Hid (Below w.heap.size w wr)) (fun i _ => xs.length - (intOf i).toNat)
  case atStart => exact ⟨0, by omega, rfl, Below.refl _ _⟩
  case round =>
    obtain ⟨k, hk, rfl, HB⟩ := hrel
    by_cases hlt : k < xs.length
    · obtain ⟨x, hx⟩ := get_at hlt
      obtain ⟨b, off, rfl, hb, c0, c1, c2, c3, c4, c5⟩ := RowG.at (HR.out.below HB.out) rfl hx
      obtain ⟨b', off', rfl, hb', d0, d1, d2, d3, d4, d5⟩ := RowG.at (HG.out.below HB.out) rfl hx
      have HK : Hid (xs[k]? = some x) := hx
      clear hx
      have hp0 : (0 : Int) ≤ (k : Int) := by omega
      have hp1 : (k : Int) < (xs.length : Int) := by omega
      go_upto_region 6 with fail
      obtain ⟨X, hX, W, QI0, QO0⟩ := Qc.klass wr
      have QI : Hid (∀ w', Below wr.heap.size wr w' → ∃ x, w' = W x) := QI0
      have QO : Hid (∀ x, Below wr.heap.size wr (W x)) := QO0
      clear QI0 QO0
      have y0 := Qc.cell_all QO.out c0
      have z0 := Qc.cell_all QO.out d0
      have y1 := Qc.cell_all QO.out c1
      have z1 := Qc.cell_all QO.out d1
      have y2 := Qc.cell_all QO.out c2
      have z2 := Qc.cell_all QO.out d2
      have y3 := Qc.cell_all QO.out c3
      have z3 := Qc.cell_all QO.out d3
      have y4 := Qc.cell_all QO.out c4
      have z4 := Qc.cell_all QO.out d4
      have y5 := Qc.cell_all QO.out c5
      have z5 := Qc.cell_all QO.out d5
      refine Qc.region_class (W := W) (by kernel_rfl) (by kernel_rfl) (QI.out _ Qc.from_drew) ?_
      repeat (go_big_quiet_step (first | (go_at_call 32; refine (eqSeen_same x _).mono ?_; rintro e w2 ⟨rfl, b2⟩; exact ⟨rfl, Qc.back QI.out QO.out b2⟩)))
      refine wpQuiet_nil ?_
      rintro _ ⟨xq, rfl⟩
      have G2 : Hid (Below w.heap.size w (W xq)) := HB.out.trans ((QO.out xq).mono HB.out.size)
      generalize W xq = wq at G2 ⊢
      go_wp2_with fail
      exact ⟨⟨k + 1, by omega, by go_num, G2⟩, by simp [intOf]; omega⟩
    · go_wp2_with fail
      go_ret
      exact ⟨rfl, HB.out⟩
set_option maxRecDepth 100000 in
set_option maxHeartbeats 800000 in
theorem eqLock_same (x : Lk) (u u' : Value) (w : World) (h : RowW w u x.ws) (g : RowW w u' x.ws) (hl : x.ws.length ≤ 1048576) :
    Calls Try.prog 31 #[lkV x u, lkV x u'] w fun e w' => e = .returned (.bool true) ∧ Below w.heap.size w w' := by
  have HR : Hid (RowW w u x.ws ∧ RowW w u' x.ws) := ⟨h, g⟩
  have HB : Hid (∀ o0 o1, Below w.heap.size w ((w.alloc o0).alloc o1)) := fun o0 o1 => two_new _ _ _
  clear h g
  unfold lkV
  have q0 : (x.n.toList != x.n.toList) = false := by simp
  have q1 : (x.t != x.t) = false := by simp
  have q2 : (x.h != x.h) = false := by simp
  have q3 : (x.e != x.e) = false := by simp
  go_enter Try.func31, Try.ntmps31
  go_wp2_with fail
  refine (eqWaiterS_same u u' x.ws _ (HR.out.1.below (HB.out _ _)) (HR.out.2.below (HB.out _ _)) hl).mono ?_
  rintro e w1 ⟨rfl, b1⟩
  have g1 := (two b1).2.2
  clear b1
  go_wp2_with fail
  go_ret
  exact ⟨rfl, g1⟩
set_option maxRecDepth 100000 in
set_option maxHeartbeats 800000 in
theorem eqLockS_same (v u0 : Value) (xs : List Lk) (w : World) (h : RowL w v xs) (g : RowL w u0 xs) (hl : xs.length ≤ 1048576) (hw : ∀ x ∈ xs, x.ws.length ≤ 1048576) :
    Calls Try.prog 16 #[v, u0] w fun e w' => e = .returned (.bool true) ∧ Below w.heap.size w w' := by
  have HR : Hid (RowL w v xs) := h
  have HG : Hid (RowL w u0 xs) := g
  have HW : Hid (∀ x ∈ xs, x.ws.length ≤ 1048576) := hw
  clear hw
  obtain ⟨a, cap, rfl⟩ := RowG.slice h
  obtain ⟨a', cap', rfl⟩ := RowG.slice g
  clear h g
  have hne : ((xs.length : Int) != (xs.length : Int)) = false := by simp
  go_enter Try.func16, Try.ntmps16
  go_wp2_with fail
  go_loopw [5] (fun i wr => ∃ k : Nat, k ≤ xs.length ∧ i = .int .i64 k ∧ Hid (Below w.heap.size w wr)) (fun i _ => xs.length - (intOf i).toNat)
  case atStart => exact ⟨0, by omega, rfl, Below.refl _ _⟩
  case round =>
    obtain ⟨k, hk, rfl, HB⟩ := hrel
    by_cases hlt : k < xs.length
    · obtain ⟨x, hx⟩ := get_at hlt
      obtain ⟨b, off, rfl, hb, u, c0, c1, c2, c3, c4, cr⟩ := RowG.at (HR.out.below HB.out) rfl hx
      obtain ⟨b', off', rfl, hb', u', d0, d1, d2, d3, d4, dr⟩ := RowG.at (HG.out.below HB.out) rfl hx
      have HK : Hid (xs[k]? = some x) := hx
      clear hx
      have hp0 : (0 : Int) ≤ (k : Int) := by omega
      have hp1 : (k : Int) < (xs.length : Int) := by omega
      go_upto_region 6 with fail
      obtain ⟨X, hX, W, QI0, QO0⟩ := Qc.klass wr
      have QI : Hid (∀ w', Below wr.heap.size wr w' → ∃ x, w' = W x) := QI0
      have QO : Hid (∀ x, Below wr.heap.size wr (W x)) := QO0
      clear QI0 QO0
      have y0 := Qc.cell_all QO.out c0
      have z0 := Qc.cell_all QO.out d0
      have y1 := Qc.cell_all QO.out c1
      have z1 := Qc.cell_all QO.out d1
      have y2 := Qc.cell_all QO.out c2
      have z2 := Qc.cell_all QO.out d2
      have y3 := Qc.cell_all QO.out c3
      have z3 := Qc.cell_all QO.out d3
      have y4 := Qc.cell_all QO.out c4
      have z4 := Qc.cell_all QO.out d4
      have HX : Hid (∀ x', RowW (W x') u x.ws ∧ RowW (W x') u' x.ws) := fun x' => ⟨cr.below (QO.out x'), dr.below (QO.out x')⟩
      clear cr dr
      refine Qc.region_class (W := W) (by kernel_rfl) (by kernel_rfl) (QI.out _ Qc.from_drew) ?_
      repeat (go_big_quiet_step (first | (go_at_call 31; refine (eqLock_same x u u' _ (HX.out _).1 (HX.out _).2 (HW.out _ (mem_at HK.out))).mono ?_; rintro e w2 ⟨rfl, b2⟩; exact ⟨rfl, Qc.back QI.out QO.out b2⟩)))
      refine wpQuiet_nil ?_
      rintro _ ⟨xq, rfl⟩
      have G2 : Hid (Below w.heap.size w (W xq)) := HB.out.trans ((QO.out xq).mono HB.out.size)
      generalize W xq = wq at G2 ⊢
      go_wp2_with fail
      exact ⟨⟨k + 1, by omega, by go_num, G2⟩, by simp [intOf]; omega⟩
    · go_wp2_with fail
      go_ret
      exact ⟨rfl, HB.out⟩
set_option maxRecDepth 100000 in
set_option maxHeartbeats 800000 in
theorem eqTable_same (tm nx : Int) (vl vs ul us : Value) (ls : List Lk) (ss : List Sn) (w : World) (hl : RowL w vl ls) (hs : RowS w vs ss) (gl : RowL w ul ls) (gs : RowS w us ss) (h1 : ls.length ≤ 1048576) (h2 : ss.length ≤ 1048576) (h3 : ∀ x ∈ ls, x.ws.length ≤ 1048576) :
    Calls Try.prog 7 #[tabV tm nx vl vs, tabV tm nx ul us] w fun e w' => e = .returned (.bool true) ∧ Below w.heap.size w w' := by
  have HR : Hid (RowL w vl ls ∧ RowL w ul ls ∧ RowS w vs ss ∧ RowS w us ss) := ⟨hl, gl, hs, gs⟩
  have HW : Hid (∀ x ∈ ls, x.ws.length ≤ 1048576) := h3
  have HB : Hid (∀ o0 o1, Below w.heap.size w ((w.alloc o0).alloc o1)) := fun o0 o1 => two_new _ _ _
  clear hl hs gl gs h3
  unfold tabV
  have q0 : (tm != tm) = false := by simp
  have q1 : (nx != nx) = false := by simp
  go_enter Try.func7, Try.ntmps7
  go_wp2_with fail
  refine (eqLockS_same vl ul ls _ (HR.out.1.below (HB.out _ _)) (HR.out.2.1.below (HB.out _ _)) h1 HW.out).mono ?_
  rintro e w1 ⟨rfl, b1⟩
  obtain ⟨k0, k1, kb⟩ := two b1
  have c0 := (blk_cell k0 3 (x := vs) rfl).1
  have c1 := (blk_cell k1 3 (x := us) rfl).1
  have KB : Hid (Below w.heap.size w w1) := kb
  clear b1 k0 k1 kb
  go_wp2_with fail
  refine (eqSeenS_same vs us ss _ (HR.out.2.2.1.below KB.out) (HR.out.2.2.2.below KB.out) h2).mono ?_
  rintro e w2 ⟨rfl, b2⟩
  have g2 := KB.out.trans (b2.mono KB.out.size)
  clear b2
  go_wp2_with fail
  go_ret
  exact ⟨rfl, g2⟩
end Go.Proofs.Ytkpaijmghojohaa.Tw
