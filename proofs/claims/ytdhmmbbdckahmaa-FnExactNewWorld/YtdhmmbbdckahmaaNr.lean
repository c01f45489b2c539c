/- Replicas with nothing in them: the laws' comparison. -/
import Derived.Test.YtdhmmbbdckahmaaRg
namespace Go.Proofs.Ytdhmmbbdckahmaa.Nr
open Go.RowKit Go.Proofs.Ytdhmmbbdckahmaa.Rg
set_option maxHeartbeats 400000 in
theorem markStr_nil (a : Int) (ad : Option Addr) (cap : Nat) (w : World) : Calls Try.prog 62 #[.slice ad 0 cap, .int .i64 a] w fun e w' => e = .returned (.int .i64 a) ∧ w = w' := by
  go_enter Try.func62, Try.ntmps62
  go_wp2_with fail
  go_loopw [1, 5] (fun k i wr => k = .int .i64 a ∧ i = .int .i64 0 ∧ wr = w) (fun _ _ _ => 0)
  case atStart => exact ⟨rfl, rfl, rfl⟩
  case round =>
    obtain ⟨rfl, rfl, rfl⟩ := hrel
    go_wp2
    go_ret
    exact ⟨rfl, rfl⟩
set_option maxHeartbeats 400000 in
theorem markMsg_nil (a : Int) (ad : Option Addr) (cap : Nat) (w : World) : Calls Try.prog 40 #[.slice ad 0 cap, .int .i64 a] w fun e w' => e = .returned (.int .i64 a) ∧ w = w' := by
  go_enter Try.func40, Try.ntmps40
  go_wp2_with fail
  go_loopw [1, 5] (fun k i wr => k = .int .i64 a ∧ i = .int .i64 0 ∧ wr = w) (fun _ _ _ => 0)
  case atStart => exact ⟨rfl, rfl, rfl⟩
  case round =>
    obtain ⟨rfl, rfl, rfl⟩ := hrel
    go_wp2
    go_ret
    exact ⟨rfl, rfl⟩
set_option maxHeartbeats 400000 in
theorem heldStr_nil (a : Int) (ad : Option Addr) (cap : Nat) (w : World) : Calls Try.prog 65 #[.slice ad 0 cap, .int .i64 a] w fun e w' => e = .returned (.int .i64 a) ∧ w = w' := by
  go_enter Try.func65, Try.ntmps65
  go_wp2_with fail
  go_loopw [1, 5] (fun k i wr => k = .int .i64 a ∧ i = .int .i64 0 ∧ wr = w) (fun _ _ _ => 0)
  case atStart => exact ⟨rfl, rfl, rfl⟩
  case round =>
    obtain ⟨rfl, rfl, rfl⟩ := hrel
    go_wp2
    go_ret
    exact ⟨rfl, rfl⟩
set_option maxHeartbeats 400000 in
theorem heldMsg_nil (a : Int) (ad : Option Addr) (cap : Nat) (w : World) : Calls Try.prog 47 #[.slice ad 0 cap, .int .i64 a] w fun e w' => e = .returned (.int .i64 a) ∧ w = w' := by
  go_enter Try.func47, Try.ntmps47
  go_wp2_with fail
  go_loopw [1, 5] (fun k i wr => k = .int .i64 a ∧ i = .int .i64 0 ∧ wr = w) (fun _ _ _ => 0)
  case atStart => exact ⟨rfl, rfl, rfl⟩
  case round =>
    obtain ⟨rfl, rfl, rfl⟩ := hrel
    go_wp2
    go_ret
    exact ⟨rfl, rfl⟩
set_option maxHeartbeats 400000 in
theorem markSlot_nil (a : Int) (ad : Option Addr) (cap : Nat) (w : World) : Calls Try.prog 60 #[.slice ad 0 cap, .int .i64 a] w fun e w' => e = .returned (.int .i64 a) ∧ w = w' := by
  go_enter Try.func60, Try.ntmps60
  go_wp2_with fail
  go_loopw [1, 5] (fun k i wr => k = .int .i64 a ∧ i = .int .i64 0 ∧ wr = w) (fun _ _ _ => 0)
  case atStart => exact ⟨rfl, rfl, rfl⟩
  case round =>
    obtain ⟨rfl, rfl, rfl⟩ := hrel
    go_wp2
    go_ret
    exact ⟨rfl, rfl⟩
set_option maxHeartbeats 400000 in
theorem markCert_nil (a : Int) (ad : Option Addr) (cap : Nat) (w : World) : Calls Try.prog 61 #[.slice ad 0 cap, .int .i64 a] w fun e w' => e = .returned (.int .i64 a) ∧ w = w' := by
  go_enter Try.func61, Try.ntmps61
  go_wp2_with fail
  go_loopw [1, 5] (fun k i wr => k = .int .i64 a ∧ i = .int .i64 0 ∧ wr = w) (fun _ _ _ => 0)
  case atStart => exact ⟨rfl, rfl, rfl⟩
  case round =>
    obtain ⟨rfl, rfl, rfl⟩ := hrel
    go_wp2
    go_ret
    exact ⟨rfl, rfl⟩
set_option maxHeartbeats 400000 in
theorem heldSlot_nil (a : Int) (ad : Option Addr) (cap : Nat) (w : World) : Calls Try.prog 63 #[.slice ad 0 cap, .int .i64 a] w fun e w' => e = .returned (.int .i64 a) ∧ w = w' := by
  go_enter Try.func63, Try.ntmps63
  go_wp2_with fail
  go_loopw [1, 5] (fun k i wr => k = .int .i64 a ∧ i = .int .i64 0 ∧ wr = w) (fun _ _ _ => 0)
  case atStart => exact ⟨rfl, rfl, rfl⟩
  case round =>
    obtain ⟨rfl, rfl, rfl⟩ := hrel
    go_wp2
    go_ret
    exact ⟨rfl, rfl⟩
set_option maxHeartbeats 400000 in
theorem heldCert_nil (a : Int) (ad : Option Addr) (cap : Nat) (w : World) : Calls Try.prog 64 #[.slice ad 0 cap, .int .i64 a] w fun e w' => e = .returned (.int .i64 a) ∧ w = w' := by
  go_enter Try.func64, Try.ntmps64
  go_wp2_with fail
  go_loopw [1, 5] (fun k i wr => k = .int .i64 a ∧ i = .int .i64 0 ∧ wr = w) (fun _ _ _ => 0)
  case atStart => exact ⟨rfl, rfl, rfl⟩
  case round =>
    obtain ⟨rfl, rfl, rfl⟩ := hrel
    go_wp2
    go_ret
    exact ⟨rfl, rfl⟩
set_option maxHeartbeats 400000 in
theorem eqStr_nil (a a' : Option Addr) (c c' : Nat) (w : World) : Calls Try.prog 69 #[.slice a 0 c, .slice a' 0 c'] w fun e w' => e = .returned (.bool true) ∧ w = w' := by
  go_enter Try.func69, Try.ntmps69
  go_wp2_with fail
  go_loopw [5] (fun i wr => i = .int .i64 0 ∧ wr = w) (fun _ _ => 0)
  case atStart => exact ⟨rfl, rfl⟩
  case round =>
    obtain ⟨rfl, rfl⟩ := hrel
    go_wp2
    go_ret
    exact ⟨rfl, rfl⟩
set_option maxHeartbeats 400000 in
theorem eqMsg_nil (a a' : Option Addr) (c c' : Nat) (w : World) : Calls Try.prog 35 #[.slice a 0 c, .slice a' 0 c'] w fun e w' => e = .returned (.bool true) ∧ w = w' := by
  go_enter Try.func35, Try.ntmps35
  go_wp2_with fail
  go_loopw [5] (fun i wr => i = .int .i64 0 ∧ wr = w) (fun _ _ => 0)
  case atStart => exact ⟨rfl, rfl⟩
  case round =>
    obtain ⟨rfl, rfl⟩ := hrel
    go_wp2
    go_ret
    exact ⟨rfl, rfl⟩
/-- An empty slot's cells, an empty certificate's. -/
def E5 (w : World) (b o : Nat) (_ : Unit) : Prop := w.cell? ⟨b, o, none⟩ = some (.string ⟨#[]⟩) ∧ (∃ p q, w.cell? ⟨b, o + 1, none⟩ = some (.slice p 0 q)) ∧ (∃ p q, w.cell? ⟨b, o + 2, none⟩ = some (.slice p 0 q)) ∧ w.cell? ⟨b, o + 3, none⟩ = some (.bool false) ∧ w.cell? ⟨b, o + 4, none⟩ = some (.bool false)
def E2 (w : World) (b o : Nat) (_ : Unit) : Prop := w.cell? ⟨b, o, none⟩ = some (.string ⟨#[]⟩) ∧ ∃ p q, w.cell? ⟨b, o + 1, none⟩ = some (.slice p 0 q)
theorem stays5 : Stays E5 := fun _ _ b _ _ hb hlt ⟨h0, ⟨p1, q1, h1⟩, ⟨p2, q2, h2⟩, h3, h4⟩ => ⟨(hb.cell (p := ⟨b, _, none⟩) hlt).trans h0, ⟨p1, q1, (hb.cell (p := ⟨b, _, none⟩) hlt).trans h1⟩, ⟨p2, q2, (hb.cell (p := ⟨b, _, none⟩) hlt).trans h2⟩, (hb.cell (p := ⟨b, _, none⟩) hlt).trans h3, (hb.cell (p := ⟨b, _, none⟩) hlt).trans h4⟩
theorem stays2 : Stays E2 := fun _ _ b _ _ hb hlt ⟨h0, p1, q1, h1⟩ => ⟨(hb.cell (p := ⟨b, _, none⟩) hlt).trans h0, p1, q1, (hb.cell (p := ⟨b, _, none⟩) hlt).trans h1⟩
theorem both_new (w : World) (o0 o1 : Obj) : Below w.heap.size w ((w.alloc o0).alloc o1) := ((Below.refl _ _).alloc (Nat.le_refl _) _).alloc (by simp) _
set_option maxRecDepth 100000 in
set_option maxHeartbeats 800000 in
theorem eqSlot_e (p1 p2 p3 p4 : Option Addr) (q1 q2 q3 q4 : Nat) (w : World) : Calls Try.prog 71 #[.agg #[.string ⟨#[]⟩, .slice p1 0 q1, .slice p2 0 q2, .bool false, .bool false], .agg #[.string ⟨#[]⟩, .slice p3 0 q3, .slice p4 0 q4, .bool false, .bool false]] w fun e w' => e = .returned (.bool true) ∧ Below w.heap.size w w' := by
  have H0 : Hid (∀ o0 o1, Below w.heap.size w ((w.alloc o0).alloc o1)) := fun o0 o1 => both_new w o0 o1
  go_enter Try.func71, Try.ntmps71
  go_wp2_with (go_at_call 35; refine (eqMsg_nil _ _ _ _ _).mono ?_; rintro e w' ⟨rfl, rfl⟩)
  go_ret
  exact ⟨rfl, H0.out _ _⟩
set_option maxRecDepth 100000 in
set_option maxHeartbeats 800000 in
theorem eqCert_e (p1 p3 : Option Addr) (q1 q3 : Nat) (w : World) : Calls Try.prog 72 #[.agg #[.string ⟨#[]⟩, .slice p1 0 q1], .agg #[.string ⟨#[]⟩, .slice p3 0 q3]] w fun e w' => e = .returned (.bool true) ∧ Below w.heap.size w w' := by
  have H0 : Hid (∀ o0 o1, Below w.heap.size w ((w.alloc o0).alloc o1)) := fun o0 o1 => both_new w o0 o1
  go_enter Try.func72, Try.ntmps72
  go_wp2_with (go_at_call 35; refine (eqMsg_nil _ _ _ _ _).mono ?_; rintro e w' ⟨rfl, rfl⟩)
  go_ret
  exact ⟨rfl, H0.out _ _⟩
set_option maxRecDepth 100000 in
set_option maxHeartbeats 800000 in
theorem eqSlotS_e (v u0 : Value) (xs : List Unit) (w : World) (h : RowG 5 E5 w v xs) (g : RowG 5 E5 w u0 xs) (hl : xs.length ≤ 1048576) :
    Calls Try.prog 67 #[v, u0] w fun e w' => e = .returned (.bool true) ∧ Below w.heap.size w w' := by
  have HR : Hid (RowG 5 E5 w v xs) := h
  have HG : Hid (RowG 5 E5 w u0 xs) := g
  obtain ⟨a, cap, rfl⟩ := RowG.slice h
  obtain ⟨a', cap', rfl⟩ := RowG.slice g
  clear h g
  have hne : ((xs.length : Int) != (xs.length : Int)) = false := by simp
  go_enter Try.func67, Try.ntmps67
  go_wp2_with fail
  go_loopw [5] (fun i wr => ∃ k : Nat, k ≤ xs.length ∧ i = .int .i64 k ∧ Hid (Below w.heap.size w wr)) (fun i _ => xs.length - (intOf i).toNat)
  case atStart => exact ⟨0, by omega, rfl, Below.refl _ _⟩
  case round =>
    obtain ⟨k, hk, rfl, HB⟩ := hrel
    by_cases hlt : k < xs.length
    · obtain ⟨x, hx⟩ := Rg.get_at hlt
      obtain ⟨b, off, rfl, hb, c0, ⟨p1, q1, c1⟩, ⟨p2, q2, c2⟩, c3, c4⟩ := RowG.at (RowG.below stays5 HR.out HB.out) rfl hx
      obtain ⟨b', off', rfl, hb', d0, ⟨p3, q3, d1⟩, ⟨p4, q4, d2⟩, d3, d4⟩ := RowG.at (RowG.below stays5 HG.out HB.out) rfl hx
      clear hx
      have hp0 : (0 : Int) ≤ (k : Int) := by omega
      have hp1 : (k : Int) < (xs.length : Int) := by omega
      go_upto_region 6 with fail
      obtain ⟨X, hX, W, QI0, QO0⟩ := Qc.klass wr
      have QI : Hid (∀ w', Below wr.heap.size wr w' → ∃ x, w' = W x) := QI0
      have QO : Hid (∀ x, Below wr.heap.size wr (W x)) := QO0
      clear QI0 QO0
      have y0 := Qc.cell_all QO.out c0
      have z0 := Qc.cell_all QO.out d0
      have y1 := Qc.cell_all QO.out c1
      have z1 := Qc.cell_all QO.out d1
      have y2 := Qc.cell_all QO.out c2
      have z2 := Qc.cell_all QO.out d2
      have y3 := Qc.cell_all QO.out c3
      have z3 := Qc.cell_all QO.out d3
      have y4 := Qc.cell_all QO.out c4
      have z4 := Qc.cell_all QO.out d4
      refine Qc.region_class (W := W) (by kernel_rfl) (by kernel_rfl) (QI.out _ Qc.from_drew) ?_
      repeat (go_big_quiet_step (first | (go_at_call 71; refine (eqSlot_e p1 p2 p3 p4 q1 q2 q3 q4 _).mono ?_; rintro e w2 ⟨rfl, b2⟩; exact ⟨rfl, Qc.back QI.out QO.out b2⟩)))
      refine wpQuiet_nil ?_
      rintro _ ⟨xq, rfl⟩
      have G2 : Hid (Below w.heap.size w (W xq)) := HB.out.trans ((QO.out xq).mono HB.out.size)
      generalize W xq = wq at G2 ⊢
      go_wp2_with fail
      exact ⟨⟨k + 1, by omega, by go_num, G2⟩, by simp [intOf]; omega⟩
    · go_wp2_with fail
      go_ret
      exact ⟨rfl, HB.out⟩
set_option maxRecDepth 100000 in
set_option maxHeartbeats 800000 in
theorem eqCertS_e (v u0 : Value) (xs : List Unit) (w : World) (h : RowG 2 E2 w v xs) (g : RowG 2 E2 w u0 xs) (hl : xs.length ≤ 1048576) :
    Calls Try.prog 68 #[v, u0] w fun e w' => e = .returned (.bool true) ∧ Below w.heap.size w w' := by
  have HR : Hid (RowG 2 E2 w v xs) := h
  have HG : Hid (RowG 2 E2 w u0 xs) := g
  obtain ⟨a, cap, rfl⟩ := RowG.slice h
  obtain ⟨a', cap', rfl⟩ := RowG.slice g
  clear h g
  have hne : ((xs.length : Int) != (xs.length : Int)) = false := by simp
  go_enter Try.func68, Try.ntmps68
  go_wp2_with fail
  go_loopw [5] (fun i wr => ∃ k : Nat, k ≤ xs.length ∧ i = .int .i64 k ∧ Hid (Below w.heap.size w wr)) (fun i _ => xs.length - (intOf i).toNat)
  case atStart => exact ⟨0, by omega, rfl, Below.refl _ _⟩
  case round =>
    obtain ⟨k, hk, rfl, HB⟩ := hrel
    by_cases hlt : k < xs.length
    · obtain ⟨x, hx⟩ := Rg.get_at hlt
      obtain ⟨b, off, rfl, hb, c0, ⟨p1, q1, c1⟩⟩ := RowG.at (RowG.below stays2 HR.out HB.out) rfl hx
      obtain ⟨b', off', rfl, hb', d0, ⟨p3, q3, d1⟩⟩ := RowG.at (RowG.below stays2 HG.out HB.out) rfl hx
      clear hx
      have hp0 : (0 : Int) ≤ (k : Int) := by omega
      have hp1 : (k : Int) < (xs.length : Int) := by omega
      go_upto_region 6 with fail
      obtain ⟨X, hX, W, QI0, QO0⟩ := Qc.klass wr
      have QI : Hid (∀ w', Below wr.heap.size wr w' → ∃ x, w' = W x) := QI0
      have QO : Hid (∀ x, Below wr.heap.size wr (W x)) := QO0
      clear QI0 QO0
      have y0 := Qc.cell_all QO.out c0
      have z0 := Qc.cell_all QO.out d0
      have y1 := Qc.cell_all QO.out c1
      have z1 := Qc.cell_all QO.out d1
      refine Qc.region_class (W := W) (by kernel_rfl) (by kernel_rfl) (QI.out _ Qc.from_drew) ?_
      repeat (go_big_quiet_step (first | (go_at_call 72; refine (eqCert_e p1 p3 q1 q3 _).mono ?_; rintro e w2 ⟨rfl, b2⟩; exact ⟨rfl, Qc.back QI.out QO.out b2⟩)))
      refine wpQuiet_nil ?_
      rintro _ ⟨xq, rfl⟩
      have G2 : Hid (Below w.heap.size w (W xq)) := HB.out.trans ((QO.out xq).mono HB.out.size)
      generalize W xq = wq at G2 ⊢
      go_wp2_with fail
      exact ⟨⟨k + 1, by omega, by go_num, G2⟩, by simp [intOf]; omega⟩
    · go_wp2_with fail
      go_ret
      exact ⟨rfl, HB.out⟩
set_option maxRecDepth 100000 in
set_option maxHeartbeats 1600000 in
theorem eqRep (i n : Int) (b : Bool) (vs vc us uc : Value) (l1 l2 m1 m2 : Option Addr) (e1 e2 f1 f2 : Nat) (xs : List Unit) (w : World) (hs : RowG 5 E5 w vs xs) (hu : RowG 5 E5 w us xs) (hc : RowG 2 E2 w vc xs) (hd : RowG 2 E2 w uc xs) (hl : xs.length ≤ 1048576) :
    Calls Try.prog 53 #[.agg #[.int .i64 i, .int .i64 n, .int .i64 0, .bool b, vs, vc, .slice l1 0 e1, .slice m1 0 f1], .agg #[.int .i64 i, .int .i64 n, .int .i64 0, .bool b, us, uc, .slice l2 0 e2, .slice m2 0 f2]] w fun e w' => e = .returned (.bool true) ∧ Below w.heap.size w w' := by
  obtain ⟨a1, c1, rfl⟩ := RowG.slice hs
  obtain ⟨a2, c2, rfl⟩ := RowG.slice hu
  obtain ⟨a3, c3, rfl⟩ := RowG.slice hc
  obtain ⟨a4, c4, rfl⟩ := RowG.slice hd
  have b0 := both_new w (.cells #[.int .i64 i, .int .i64 n, .int .i64 0, .bool b, .slice a1 xs.length c1, .slice a3 xs.length c3, .slice l1 0 e1, .slice m1 0 f1] 65) (.cells #[.int .i64 i, .int .i64 n, .int .i64 0, .bool b, .slice a2 xs.length c2, .slice a4 xs.length c4, .slice l2 0 e2, .slice m2 0 f2] 65)
  have HB : Hid (Below w.heap.size w ((w.alloc (.cells #[.int .i64 i, .int .i64 n, .int .i64 0, .bool b, .slice a1 xs.length c1, .slice a3 xs.length c3, .slice l1 0 e1, .slice m1 0 f1] 65)).alloc (.cells #[.int .i64 i, .int .i64 n, .int .i64 0, .bool b, .slice a2 xs.length c2, .slice a4 xs.length c4, .slice l2 0 e2, .slice m2 0 f2] 65))) := b0
  have K0 : Hid (((w.alloc (.cells #[.int .i64 i, .int .i64 n, .int .i64 0, .bool b, .slice a1 xs.length c1, .slice a3 xs.length c3, .slice l1 0 e1, .slice m1 0 f1] 65)).alloc (.cells #[.int .i64 i, .int .i64 n, .int .i64 0, .bool b, .slice a2 xs.length c2, .slice a4 xs.length c4, .slice l2 0 e2, .slice m2 0 f2] 65)).heap[w.heap.size]? = some (.cells #[.int .i64 i, .int .i64 n, .int .i64 0, .bool b, .slice a1 xs.length c1, .slice a3 xs.length c3, .slice l1 0 e1, .slice m1 0 f1] 65 (0, 0))) := (Below.heap_alloc _ _ _ (by simp)).trans (blk_new _ _ _)
  have K1 : Hid (((w.alloc (.cells #[.int .i64 i, .int .i64 n, .int .i64 0, .bool b, .slice a1 xs.length c1, .slice a3 xs.length c3, .slice l1 0 e1, .slice m1 0 f1] 65)).alloc (.cells #[.int .i64 i, .int .i64 n, .int .i64 0, .bool b, .slice a2 xs.length c2, .slice a4 xs.length c4, .slice l2 0 e2, .slice m2 0 f2] 65)).heap[w.heap.size + 1]? = some (.cells #[.int .i64 i, .int .i64 n, .int .i64 0, .bool b, .slice a2 xs.length c2, .slice a4 xs.length c4, .slice l2 0 e2, .slice m2 0 f2] 65 (0, 0))) := by
    have := blk_new (w.alloc (.cells #[.int .i64 i, .int .i64 n, .int .i64 0, .bool b, .slice a1 xs.length c1, .slice a3 xs.length c3, .slice l1 0 e1, .slice m1 0 f1] 65)) #[.int .i64 i, .int .i64 n, .int .i64 0, .bool b, .slice a2 xs.length c2, .slice a4 xs.length c4, .slice l2 0 e2, .slice m2 0 f2] 65
    rw [size_new] at this
    exact this
  have HS : Hid (∀ W, Below w.heap.size w W → RowG 5 E5 W (.slice a1 xs.length c1) xs ∧ RowG 5 E5 W (.slice a2 xs.length c2) xs ∧ RowG 2 E2 W (.slice a3 xs.length c3) xs ∧ RowG 2 E2 W (.slice a4 xs.length c4) xs) := fun W hW => ⟨RowG.below stays5 hs hW, RowG.below stays5 hu hW, RowG.below stays2 hc hW, RowG.below stays2 hd hW⟩
  clear hs hu hc hd b0
  have i0 : (i != i) = false := by simp
  have i1 : (n != n) = false := by simp
  have i2 : (b != b) = false := by simp
  go_enter Try.func53, Try.ntmps53
  go_upto_region 1 with fail
  generalize (w.alloc (.cells #[.int .i64 i, .int .i64 n, .int .i64 0, .bool b, .slice a1 xs.length c1, .slice a3 xs.length c3, .slice l1 0 e1, .slice m1 0 f1] 65)).alloc (.cells #[.int .i64 i, .int .i64 n, .int .i64 0, .bool b, .slice a2 xs.length c2, .slice a4 xs.length c4, .slice l2 0 e2, .slice m2 0 f2] 65) = w2 at HB K0 K1 ⊢
  have x0 := (blk_cell K0.out 0 (x := .int .i64 i) rfl).1
  have x1 := (blk_cell K0.out 1 (x := .int .i64 n) rfl).1
  have x2 := (blk_cell K0.out 2 (x := .int .i64 0) rfl).1
  have x3 := (blk_cell K0.out 3 (x := .bool b) rfl).1
  have x4 := (blk_cell K0.out 4 (x := .slice a1 xs.length c1) rfl).1
  have x5 := (blk_cell K0.out 5 (x := .slice a3 xs.length c3) rfl).1
  have x6 := (blk_cell K0.out 6 (x := .slice l1 0 e1) rfl).1
  have x7 := (blk_cell K0.out 7 (x := .slice m1 0 f1) rfl).1
  have y0 := (blk_cell K1.out 0 (x := .int .i64 i) rfl).1
  have y1 := (blk_cell K1.out 1 (x := .int .i64 n) rfl).1
  have y2 := (blk_cell K1.out 2 (x := .int .i64 0) rfl).1
  have y3 := (blk_cell K1.out 3 (x := .bool b) rfl).1
  have y4 := (blk_cell K1.out 4 (x := .slice a2 xs.length c2) rfl).1
  have y5 := (blk_cell K1.out 5 (x := .slice a4 xs.length c4) rfl).1
  have y6 := (blk_cell K1.out 6 (x := .slice l2 0 e2) rfl).1
  have y7 := (blk_cell K1.out 7 (x := .slice m2 0 f2) rfl).1
  go_wp2_with fail
  refine (eqSlotS_e _ _ xs w2 (HS.out _ HB.out).1 (HS.out _ HB.out).2.1 hl).mono ?_
  rintro e w3 ⟨rfl, b3⟩
  have B3 : Hid (Below w.heap.size w w3) := HB.out.trans (b3.mono HB.out.size)
  have k5 := (blk_cell ((b3.block _ (Array.getElem?_eq_some_iff.1 K0.out).1).trans K0.out) 5 (x := .slice a3 xs.length c3) rfl).1
  have j5 := (blk_cell ((b3.block _ (Array.getElem?_eq_some_iff.1 K1.out).1).trans K1.out) 5 (x := .slice a4 xs.length c4) rfl).1
  have K3 : Hid (w3.heap[w.heap.size]? = some (.cells #[.int .i64 i, .int .i64 n, .int .i64 0, .bool b, .slice a1 xs.length c1, .slice a3 xs.length c3, .slice l1 0 e1, .slice m1 0 f1] 65 (0, 0))) := (b3.block _ (Array.getElem?_eq_some_iff.1 K0.out).1).trans K0.out
  have J3 : Hid (w3.heap[w.heap.size + 1]? = some (.cells #[.int .i64 i, .int .i64 n, .int .i64 0, .bool b, .slice a2 xs.length c2, .slice a4 xs.length c4, .slice l2 0 e2, .slice m2 0 f2] 65 (0, 0))) := (b3.block _ (Array.getElem?_eq_some_iff.1 K1.out).1).trans K1.out
  clear b3 HB K0 K1 x0 x1 x2 x3 x4 x5 x6 x7 y0 y1 y2 y3 y4 y5 y6 y7
  go_wp2_with fail
  refine (eqCertS_e _ _ xs w3 (HS.out _ B3.out).2.2.1 (HS.out _ B3.out).2.2.2 hl).mono ?_
  rintro e w4 ⟨rfl, b4⟩
  have B4 : Hid (Below w.heap.size w w4) := B3.out.trans (b4.mono B3.out.size)
  have K4 : Hid (w4.heap[w.heap.size]? = some (.cells #[.int .i64 i, .int .i64 n, .int .i64 0, .bool b, .slice a1 xs.length c1, .slice a3 xs.length c3, .slice l1 0 e1, .slice m1 0 f1] 65 (0, 0))) := (b4.block _ (Array.getElem?_eq_some_iff.1 K3.out).1).trans K3.out
  have J4 : Hid (w4.heap[w.heap.size + 1]? = some (.cells #[.int .i64 i, .int .i64 n, .int .i64 0, .bool b, .slice a2 xs.length c2, .slice a4 xs.length c4, .slice l2 0 e2, .slice m2 0 f2] 65 (0, 0))) := (b4.block _ (Array.getElem?_eq_some_iff.1 J3.out).1).trans J3.out
  clear b4 B3 K3 J3 k5 j5
  have k6 := (blk_cell K4.out 6 (x := .slice l1 0 e1) rfl).1
  have j6 := (blk_cell J4.out 6 (x := .slice l2 0 e2) rfl).1
  have k7 := (blk_cell K4.out 7 (x := .slice m1 0 f1) rfl).1
  have j7 := (blk_cell J4.out 7 (x := .slice m2 0 f2) rfl).1
  go_wp2_with (first | (go_at_call 69; refine (eqStr_nil _ _ _ _ _).mono ?_; rintro e w' ⟨rfl, rfl⟩) | (go_at_call 35; refine (eqMsg_nil _ _ _ _ _).mono ?_; rintro e w' ⟨rfl, rfl⟩))
  go_ret
  exact ⟨rfl, B4.out⟩
end Go.Proofs.Ytdhmmbbdckahmaa.Nr
