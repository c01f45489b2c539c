/- Replies in a slice: read, measured, copied, compared. -/
import Derived.Test.YtdhmmbbdckahmaaRg
namespace Go.Proofs.Ytdhmmbbdckahmaa.Gy
open Go.RowKit Go.Proofs.Ytdhmmbbdckahmaa.Sl Go.Proofs.Ytdhmmbbdckahmaa.Ap Go.Proofs.Ytdhmmbbdckahmaa.Rg

structure Re where
  nd : Int
  cl : Int
  st : Int
  kd : Int
  tk : Int
  hd : Int
  ex : Int
  mc : ByteArray
instance : Inhabited Re := ⟨⟨0, 0, 0, 0, 0, 0, 0, ⟨#[]⟩⟩⟩
def E1 (w : World) (b o : Nat) (x : Re) : Prop := w.cell? ⟨b, o, none⟩ = some (.int .i64 x.nd) ∧ w.cell? ⟨b, o + 1, none⟩ = some (.int .i64 x.cl) ∧ w.cell? ⟨b, o + 2, none⟩ = some (.int .i64 x.st) ∧ w.cell? ⟨b, o + 3, none⟩ = some (.int .i64 x.kd) ∧ w.cell? ⟨b, o + 4, none⟩ = some (.int .i64 x.tk) ∧ w.cell? ⟨b, o + 5, none⟩ = some (.int .i64 x.hd) ∧ w.cell? ⟨b, o + 6, none⟩ = some (.int .i64 x.ex) ∧ w.cell? ⟨b, o + 7, none⟩ = some (.string x.mc)
/-- The slice v holds the things xs. -/
def Row (w : World) (v : Value) (xs : List Re) : Prop := RowG 8 E1 w v xs
def oneV (x : Re) : Value := .agg #[.int .i64 x.nd, .int .i64 x.cl, .int .i64 x.st, .int .i64 x.kd, .int .i64 x.tk, .int .i64 x.hd, .int .i64 x.ex, .string x.mc]
theorem stays1 : Stays E1 := fun _ _ b _ _ hb hlt ⟨h0, h1, h2, h3, h4, h5, h6, h7⟩ => ⟨(hb.cell (p := ⟨b, _, none⟩) hlt).trans h0, (hb.cell (p := ⟨b, _, none⟩) hlt).trans h1, (hb.cell (p := ⟨b, _, none⟩) hlt).trans h2, (hb.cell (p := ⟨b, _, none⟩) hlt).trans h3, (hb.cell (p := ⟨b, _, none⟩) hlt).trans h4, (hb.cell (p := ⟨b, _, none⟩) hlt).trans h5, (hb.cell (p := ⟨b, _, none⟩) hlt).trans h6, (hb.cell (p := ⟨b, _, none⟩) hlt).trans h7⟩
theorem Row.below {w w' : World} {v : Value} {xs : List Re} (h : Row w v xs) (hb : Below w.heap.size w w') : Row w' v xs := RowG.below stays1 h hb
/-- Its texts are no longer than n. -/
def Tz (n : Nat) (x : Re) : Prop := x.mc.size ≤ n
theorem two {w w1 : World} {o0 o1 : Obj} (b : Below ((w.alloc o0).alloc o1).heap.size ((w.alloc o0).alloc o1) w1) :
    w1.heap[w.heap.size]? = some o0 ∧ w1.heap[w.heap.size + 1]? = some o1 ∧ Below w.heap.size w w1 := by
  have e1 : (w.alloc o0).heap.size = w.heap.size + 1 := by simp
  refine ⟨?_, ?_, ((bel_new w o0).trans ((bel_new _ o1).mono (by simp))).trans (b.mono (by simp; omega))⟩
  · rw [b.block _ (by simp; omega), ← heap_alloc_new w o0]; exact (bel_new _ o1).block _ (by simp)
  · rw [b.block _ (by simp), ← e1]; exact heap_alloc_new _ _
set_option maxRecDepth 100000 in
set_option maxHeartbeats 1600000 in
theorem eqA_same (k t h e0 : Int) (w : World) :
    Calls Try.prog 59 #[.agg #[.int .i64 k, .int .i64 t, .int .i64 h, .int .i64 e0], .agg #[.int .i64 k, .int .i64 t, .int .i64 h, .int .i64 e0]] w fun e w' => e = .returned (.bool true) ∧ Below w.heap.size w w' := by
  have q0 : (k != k) = false := by simp
  have q1 : (t != t) = false := by simp
  have q2 : (h != h) = false := by simp
  have q3 : (e0 != e0) = false := by simp
  go_enter Try.func59, Try.ntmps59
  go_wp2_with fail
  go_ret
  exact ⟨rfl, ((Below.refl _ _).alloc (Nat.le_refl _) _).alloc (by simp) _⟩
set_option maxRecDepth 100000 in
set_option maxHeartbeats 1600000 in
theorem eq1_same (x : Re) (w : World) :
    Calls Try.prog 70 #[oneV x, oneV x] w fun e w' => e = .returned (.bool true) ∧ Below w.heap.size w w' := by
  unfold oneV
  have q0 : (x.nd != x.nd) = false := by simp
  have q1 : (x.cl != x.cl) = false := by simp
  have q2 : (x.st != x.st) = false := by simp
  have q3 : (x.mc.toList != x.mc.toList) = false := by simp
  have r3 : (x.mc.toList == x.mc.toList) = true := by simp
  go_enter Try.func70, Try.ntmps70
  go_wp2_with fail
  refine (eqA_same x.kd x.tk x.hd x.ex _).mono ?_
  rintro e w1 ⟨rfl, b1⟩
  obtain ⟨k0, k1, g1⟩ := two b1
  have p0 := (blk_cell k0 7 (x := .string x.mc) rfl).1
  have p1 := (blk_cell k1 7 (x := .string x.mc) rfl).1
  clear b1 k0 k1
  go_wp2_with fail
  go_ret
  exact ⟨rfl, g1⟩
set_option maxRecDepth 100000 in
set_option maxHeartbeats 800000 in
theorem eqS_same (v u0 : Value) (xs : List Re) (w : World) (h : Row w v xs) (g : Row w u0 xs) (hl : xs.length ≤ 1048576) :
    Calls Try.prog 57 #[v, u0] w fun e w' => e = .returned (.bool true) ∧ Below w.heap.size w w' := by
  have HR : Hid (Row w v xs) := h
  have HG : Hid (Row w u0 xs) := g
  obtain ⟨a, cap, rfl⟩ := RowG.slice h
  obtain ⟨a', cap', rfl⟩ := RowG.slice g
  clear h g
  have hne : ((xs.length : Int) != (xs.length : Int)) = false := by simp
  go_enter Try.func57, Try.ntmps57
  go_wp2_with fail
  go_loopw [5] (fun i wr => ∃ k : Nat, k ≤ xs.length ∧ i = .int .i64 k ∧ Hid (Below w.heap.size w wr)) (fun i _ => xs.length - (intOf i).toNat)
  case atStart => exact ⟨0, by omega, rfl, Below.refl _ _⟩
  case round =>
    obtain ⟨k, hk, rfl, HB⟩ := hrel
    by_cases hlt : k < xs.length
    · obtain ⟨x, hx⟩ := Rg.get_at hlt
      obtain ⟨b, off, rfl, hb, c0, c1, c2, c3, c4, c5, c6, c7⟩ := RowG.at (HR.out.below HB.out) rfl hx
      obtain ⟨b', off', rfl, hb', d0, d1, d2, d3, d4, d5, d6, d7⟩ := RowG.at (HG.out.below HB.out) rfl hx
      have HK : Hid (xs[k]? = some x) := hx
      clear hx
      have hp0 : (0 : Int) ≤ (k : Int) := by omega
      have hp1 : (k : Int) < (xs.length : Int) := by omega
      go_upto_region 6 with fail
      obtain ⟨X, hX, W, QI0, QO0⟩ := Qc.klass wr
      have QI : Hid (∀ w', Below wr.heap.size wr w' → ∃ x, w' = W x) := QI0
      have QO : Hid (∀ x, Below wr.heap.size wr (W x)) := QO0
      clear QI0 QO0
      have y0 := Qc.cell_all QO.out c0
      have z0 := Qc.cell_all QO.out d0
      have y1 := Qc.cell_all QO.out c1
      have z1 := Qc.cell_all QO.out d1
      have y2 := Qc.cell_all QO.out c2
      have z2 := Qc.cell_all QO.out d2
      have y3 := Qc.cell_all QO.out c3
      have z3 := Qc.cell_all QO.out d3
      have y4 := Qc.cell_all QO.out c4
      have z4 := Qc.cell_all QO.out d4
      have y5 := Qc.cell_all QO.out c5
      have z5 := Qc.cell_all QO.out d5
      have y6 := Qc.cell_all QO.out c6
      have z6 := Qc.cell_all QO.out d6
      have y7 := Qc.cell_all QO.out c7
      have z7 := Qc.cell_all QO.out d7
      refine Qc.region_class (W := W) (by kernel_rfl) (by kernel_rfl) (QI.out _ Qc.from_drew) ?_
      repeat (go_big_quiet_step (first | (go_at_call 70; refine (eq1_same x _).mono ?_; rintro e w2 ⟨rfl, b2⟩; exact ⟨rfl, Qc.back QI.out QO.out b2⟩)))
      refine wpQuiet_nil ?_
      rintro _ ⟨xq, rfl⟩
      have G2 : Hid (Below w.heap.size w (W xq)) := HB.out.trans ((QO.out xq).mono HB.out.size)
      generalize W xq = wq at G2 ⊢
      go_wp2_with fail
      exact ⟨⟨k + 1, by omega, by go_num, G2⟩, by simp [intOf]; omega⟩
    · go_wp2_with fail
      go_ret
      exact ⟨rfl, HB.out⟩
set_option maxRecDepth 100000 in
set_option maxHeartbeats 1600000 in
theorem markS_any (g n cap : Nat) (a : Nat) (B C : Nat) (w : World) (h : Wr w g (n * 8)) (hB : B ≤ g) (hC : g < C) (hn : n ≤ 1048576) (ha : a ≤ 1000000000000) (ha0 : 0 < a) :
    Calls Try.prog 42 #[.slice (some ⟨g, 0, none⟩) n cap, .int .i64 a] w fun e w' => ∃ r : Nat, e = .returned (.int .i64 (r : Int)) ∧ r ≤ a + n * 8 ∧ 0 < r ∧ Mid B C w w' := by
  have H : Hid (Wr w g (n * 8)) := h
  clear h
  go_enter Try.func42, Try.ntmps42
  go_wp2_with fail
  go_loopw [1, 5] (fun k i wr => ∃ q r : Nat, q ≤ n ∧ k = .int .i64 (r : Int) ∧ 0 < r ∧ r ≤ a + q * 8 ∧ i = .int .i64 q ∧ Hid (Wr wr g (n * 8) ∧ Mid B C w wr)) (fun _ i _ => n - (intOf i).toNat)
  case atStart => exact ⟨0, a, by omega, rfl, ha0, by omega, rfl, H.out, Mid.refl _ _ _⟩
  case round =>
    obtain ⟨q, r, hq, rfl, hr0, hr, rfl, HA⟩ := hrel
    by_cases hlt : q < n
    · have hsz : q * 8 + 7 < n * 8 := by omega
      obtain ⟨⟨x0, c0⟩, f0⟩ := HA.out.1.cell (j := q * 8) (by omega)
      obtain ⟨⟨x1, c1⟩, f1⟩ := HA.out.1.cell (j := q * 8 + 1) (by omega)
      obtain ⟨⟨x2, c2⟩, f2⟩ := HA.out.1.cell (j := q * 8 + 2) (by omega)
      obtain ⟨⟨x3, c3⟩, f3⟩ := HA.out.1.cell (j := q * 8 + 3) (by omega)
      obtain ⟨⟨x4, c4⟩, f4⟩ := HA.out.1.cell (j := q * 8 + 4) (by omega)
      obtain ⟨⟨x5, c5⟩, f5⟩ := HA.out.1.cell (j := q * 8 + 5) (by omega)
      obtain ⟨⟨x6, c6⟩, f6⟩ := HA.out.1.cell (j := q * 8 + 6) (by omega)
      have HC : Hid (Wr (((((((wr.setCell ⟨g, q * 8, none⟩ (.int .i64 ((r : Int)))).setCell ⟨g, q * 8 + 1, none⟩ (.int .i64 ((r : Int) + 1))).setCell ⟨g, q * 8 + 2, none⟩ (.int .i64 ((r : Int) + 1 + 1))).setCell ⟨g, q * 8 + 3, none⟩ (.int .i64 ((r : Int) + 1 + 1 + 1))).setCell ⟨g, q * 8 + 4, none⟩ (.int .i64 ((r : Int) + 1 + 1 + 1 + 1))).setCell ⟨g, q * 8 + 5, none⟩ (.int .i64 ((r : Int) + 1 + 1 + 1 + 1 + 1))).setCell ⟨g, q * 8 + 6, none⟩ (.int .i64 ((r : Int) + 1 + 1 + 1 + 1 + 1 + 1))) g (n * 8) ∧ Mid B C w (((((((wr.setCell ⟨g, q * 8, none⟩ (.int .i64 ((r : Int)))).setCell ⟨g, q * 8 + 1, none⟩ (.int .i64 ((r : Int) + 1))).setCell ⟨g, q * 8 + 2, none⟩ (.int .i64 ((r : Int) + 1 + 1))).setCell ⟨g, q * 8 + 3, none⟩ (.int .i64 ((r : Int) + 1 + 1 + 1))).setCell ⟨g, q * 8 + 4, none⟩ (.int .i64 ((r : Int) + 1 + 1 + 1 + 1))).setCell ⟨g, q * 8 + 5, none⟩ (.int .i64 ((r : Int) + 1 + 1 + 1 + 1 + 1))).setCell ⟨g, q * 8 + 6, none⟩ (.int .i64 ((r : Int) + 1 + 1 + 1 + 1 + 1 + 1)))) := ⟨(((((((HA.out.1.set _ _ _).set _ _ _).set _ _ _).set _ _ _).set _ _ _).set _ _ _).set _ _ _), (((((((HA.out.2.trans (Mid.set hB hC _ _)).trans (Mid.set hB hC _ _)).trans (Mid.set hB hC _ _)).trans (Mid.set hB hC _ _)).trans (Mid.set hB hC _ _)).trans (Mid.set hB hC _ _)).trans (Mid.set hB hC _ _))⟩
      go_wp2_with fail
      generalize (((((((wr.setCell ⟨g, q * 8, none⟩ (.int .i64 ((r : Int)))).setCell ⟨g, q * 8 + 1, none⟩ (.int .i64 ((r : Int) + 1))).setCell ⟨g, q * 8 + 2, none⟩ (.int .i64 ((r : Int) + 1 + 1))).setCell ⟨g, q * 8 + 3, none⟩ (.int .i64 ((r : Int) + 1 + 1 + 1))).setCell ⟨g, q * 8 + 4, none⟩ (.int .i64 ((r : Int) + 1 + 1 + 1 + 1))).setCell ⟨g, q * 8 + 5, none⟩ (.int .i64 ((r : Int) + 1 + 1 + 1 + 1 + 1))).setCell ⟨g, q * 8 + 6, none⟩ (.int .i64 ((r : Int) + 1 + 1 + 1 + 1 + 1 + 1))) = v0 at HC ⊢
      clear HA c0 f0 c1 f1 c2 f2 c3 f3 c4 f4 c5 f5 c6 f6
      obtain ⟨r0, HR0⟩ : ∃ r0 : Nat, Hid (r + 7 = r0) := ⟨_, rfl⟩
      have ER : Hid ((r : Int) + 1 + 1 + 1 + 1 + 1 + 1 + 1 = (r0 : Int)) := by show _ = _; have := HR0.out; omega
      rw [ER.out]
      have l0 : 0 < r0 ∧ r0 ≤ a + q * 8 + 7 := by have := HR0.out; omega
      refine (markText_any r0 v0 l0.1 (by omega)).mono ?_
      rintro e u0 ⟨rfl, b0⟩
      have HD0 : Hid (Wr u0 g (n * 8) ∧ Mid B C w u0) := ⟨HC.out.1.below b0, HC.out.2.trans (Mid.of_below b0)⟩
      generalize mtext r0 = mt0
      obtain ⟨⟨y0, d0⟩, g0⟩ := HD0.out.1.cell (j := q * 8 + 7) (by omega)
      have HE : Hid (Wr (u0.setCell ⟨g, q * 8 + 7, none⟩ (.string mt0)) g (n * 8) ∧ Mid B C w (u0.setCell ⟨g, q * 8 + 7, none⟩ (.string mt0))) := ⟨HD0.out.1.set _ _ _, HD0.out.2.trans (Mid.set hB hC _ _)⟩
      clear HC b0
      go_wp2_with fail
      exact ⟨⟨q + 1, r0 + 1, by omega, by go_num, by omega, by omega, by go_num, HE⟩, by simp [intOf]; omega⟩
    · obtain rfl : q = n := by omega
      go_wp2_with fail
      go_ret
      exact ⟨r, rfl, hr, hr0, HA.out.2⟩
end Go.Proofs.Ytdhmmbbdckahmaa.Gy
namespace Go.Proofs.Ytdhmmbbdckahmaa.Op
open Go.ChangeShapes Go.WideShapes Go.ChangeAt Go.RowKit Go.Deep Go.Proofs.Ytdhmmbbdckahmaa.Rg Go.Proofs.Ytdhmmbbdckahmaa.Gy
end Go.Proofs.Ytdhmmbbdckahmaa.Op
