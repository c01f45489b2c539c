/- Texts put together: Cfa, Cfb, Cfc. -/
import Derived.Test.YtimmeclclilpdaaGreatDoorSz
import Derived.Test.YtimmeclclilpdaaGreatDoorRg
import Derived.Test.YtimmeclclilpdaaGreatDoorIs
import Derived.Test.YtimmeclclilpdaaGreatDoorJCheckCertificate0
import Derived.Test.YtimmeclclilpdaaGreatDoorOc
/- Signatures of keys in a slice: read, measured, copied, compared. -/
namespace Go.Proofs.YtimmeclclilpdaaGreatDoor.Kc
open Go.RowKit Go.Proofs.YtimmeclclilpdaaGreatDoor.Sl Go.Proofs.YtimmeclclilpdaaGreatDoor.By Go.Proofs.YtimmeclclilpdaaGreatDoor.Ap Go.Proofs.YtimmeclclilpdaaGreatDoor.Tx Go.Proofs.YtimmeclclilpdaaGreatDoor.Mk Go.Proofs.YtimmeclclilpdaaGreatDoor.Sg Go.Proofs.YtimmeclclilpdaaGreatDoor.Sq Go.Proofs.YtimmeclclilpdaaGreatDoor.Sz
open Go.Proofs.YtimmeclclilpdaaGreatDoor.Rg (RowG Stays)

/-- A signature: its key's index and its three lists of texts. -/
structure Ks where
  i : Int
  a : List ByteArray
  b : List ByteArray
  c : List ByteArray
instance : Inhabited Ks := ⟨⟨0, [], [], []⟩⟩
def E1 (w : World) (b o : Nat) (x : Ks) : Prop := ∃ va vb vc, w.cell? ⟨b, o, none⟩ = some (.int .i64 x.i) ∧ w.cell? ⟨b, o + 1, none⟩ = some va ∧ w.cell? ⟨b, o + 2, none⟩ = some vb ∧ w.cell? ⟨b, o + 3, none⟩ = some vc ∧ RowT w va x.a ∧ RowT w vb x.b ∧ RowT w vc x.c
theorem stays1 : Stays E1 := fun _ _ b _ _ hb hlt ⟨va, vb, vc, h0, h1, h2, h3, r1, r2, r3⟩ => ⟨va, vb, vc, (hb.cell (p := ⟨b, _, none⟩) hlt).trans h0, (hb.cell (p := ⟨b, _, none⟩) hlt).trans h1, (hb.cell (p := ⟨b, _, none⟩) hlt).trans h2, (hb.cell (p := ⟨b, _, none⟩) hlt).trans h3, r1.below hb, r2.below hb, r3.below hb⟩
def Row (w : World) (v : Value) (xs : List Ks) : Prop := RowG 4 E1 w v xs
theorem Row.below {w w' : World} {v : Value} {xs : List Ks} (h : Row w v xs) (hb : Below w.heap.size w w') : Row w' v xs := RowG.below stays1 h hb
/-- Its lists and texts are no longer than n. -/
def Tz (n : Nat) (x : Ks) : Prop := (x.a.length ≤ n ∧ x.b.length ≤ n ∧ x.c.length ≤ n) ∧ (∀ t ∈ x.a, t.size ≤ maxLen) ∧ (∀ t ∈ x.b, t.size ≤ maxLen) ∧ ∀ t ∈ x.c, t.size ≤ maxLen
set_option maxRecDepth 100000 in
set_option maxHeartbeats 800000 in
theorem sz1_any (L0 : Int) (h00 : 0 ≤ L0) (h01 : L0 ≤ 1048576) (i : Int) (ua ub uc : Value) (ta tb tc : List ByteArray) (w : World) (ra : RowT w ua ta) (rb : RowT w ub tb) (rc : RowT w uc tc) (la : ta.length ≤ maxLen) (lb : tb.length ≤ maxLen) (lc : tc.length ≤ maxLen) (za : ∀ t ∈ ta, t.size ≤ maxLen) (zb : ∀ t ∈ tb, t.size ≤ maxLen) (zc : ∀ t ∈ tc, t.size ≤ maxLen) :
    Calls Tryz.prog 87 #[.agg #[.int .i64 i, ua, ub, uc], .int .i64 L0] w fun e w' => (∃ m : Int, e = .returned (.int .i64 m) ∧ m ≤ 1048576 ∧ (¬ m < 0 → ta.length ≤ 1048576 ∧ tb.length ≤ 1048576 ∧ tc.length ≤ 1048576)) ∧ Below w.heap.size w w' := by
  have HS1 : Hid (∀ (o : Obj) (l : Int), 0 ≤ l → l ≤ 1048576 → Calls Tryz.prog 116 #[ua, .int .i64 l] (w.alloc o) fun e w' => e = .returned (.int .i64 (lfT l ta)) ∧ (w.alloc o) = w') := fun o l h0 h1 => szStringS_any ua ta l _ (ra.below (bel_new _ _)) la za h0 h1
  have HS2 : Hid (∀ (o : Obj) (l : Int), 0 ≤ l → l ≤ 1048576 → Calls Tryz.prog 116 #[ub, .int .i64 l] (w.alloc o) fun e w' => e = .returned (.int .i64 (lfT l tb)) ∧ (w.alloc o) = w') := fun o l h0 h1 => szStringS_any ub tb l _ (rb.below (bel_new _ _)) lb zb h0 h1
  have HS3 : Hid (∀ (o : Obj) (l : Int), 0 ≤ l → l ≤ 1048576 → Calls Tryz.prog 116 #[uc, .int .i64 l] (w.alloc o) fun e w' => e = .returned (.int .i64 (lfT l tc)) ∧ (w.alloc o) = w') := fun o l h0 h1 => szStringS_any uc tc l _ (rc.below (bel_new _ _)) lc zc h0 h1
  obtain ⟨a1, c1, rfl, _⟩ := ra
  obtain ⟨a2, c2, rfl, _⟩ := rb
  obtain ⟨a3, c3, rfl, _⟩ := rc
  clear la lb lc za zb zc
  have e1 := lfT_le (left := L0) (ts := ta) h01 h00
  by_cases h1 : lfT L0 ta < 0
  · have HM : Hid _ := h1
    go_enter Tryz.func87, Tryz.ntmps87
    go_wp2_with fail
    refine (HS1.out _ L0 h00 h01).mono ?_
    rintro e w9 ⟨rfl, rfl⟩
    clear e1
    generalize lfT L0 ta = m1 at h1
    go_wp2_with fail
    go_ret
    exact ⟨⟨-1, rfl, by decide, fun h => by omega⟩, bel_new _ _⟩
  obtain ⟨l1, _⟩ := e1.2.1 (by omega)
  have e2 := lfT_le (left := lfT L0 ta) (ts := tb) e1.1 (by omega)
  by_cases h2 : lfT (lfT L0 ta) tb < 0
  · have HQ : Hid (0 ≤ lfT L0 ta ∧ lfT L0 ta ≤ 1048576) := ⟨by omega, e1.1⟩
    go_enter Tryz.func87, Tryz.ntmps87
    go_wp2_with fail
    refine (HS1.out _ L0 h00 h01).mono ?_
    rintro e w9 ⟨rfl, rfl⟩
    clear e1 e2
    generalize lfT L0 ta = m1 at h1 h2 HQ
    go_wp2_with fail
    refine (HS2.out _ m1 HQ.out.1 HQ.out.2).mono ?_
    rintro e w9 ⟨rfl, rfl⟩
    generalize lfT m1 tb = m2 at h2
    go_wp2_with fail
    go_ret
    exact ⟨⟨-1, rfl, by decide, fun h => by omega⟩, bel_new _ _⟩
  obtain ⟨l2, _⟩ := e2.2.1 (by omega)
  have e3 := lfT_le (left := lfT (lfT L0 ta) tb) (ts := tc) e2.1 (by omega)
  have HQ : Hid ((0 ≤ lfT L0 ta ∧ lfT L0 ta ≤ 1048576) ∧ (0 ≤ lfT (lfT L0 ta) tb ∧ lfT (lfT L0 ta) tb ≤ 1048576)) := ⟨⟨by omega, e1.1⟩, by omega, e2.1⟩
  have HL : Hid (¬ lfT (lfT (lfT L0 ta) tb) tc < 0 → ta.length ≤ 1048576 ∧ tb.length ≤ 1048576 ∧ tc.length ≤ 1048576) := fun h => ⟨by omega, by omega, by have := (e3.2.1 (by omega)).1; omega⟩
  have HM3 : Hid (lfT (lfT (lfT L0 ta) tb) tc ≤ 1048576) := e3.1
  clear e1 e2 e3
  by_cases h3 : lfT (lfT (lfT L0 ta) tb) tc < 0
  · go_enter Tryz.func87, Tryz.ntmps87
    go_wp2_with fail
    refine (HS1.out _ L0 h00 h01).mono ?_
    rintro e w9 ⟨rfl, rfl⟩
    generalize lfT L0 ta = m1 at h1 h2 h3 HQ
    go_wp2_with fail
    refine (HS2.out _ m1 HQ.out.1.1 HQ.out.1.2).mono ?_
    rintro e w9 ⟨rfl, rfl⟩
    generalize lfT m1 tb = m2 at h2 h3 HQ
    go_wp2_with fail
    refine (HS3.out _ m2 HQ.out.2.1 HQ.out.2.2).mono ?_
    rintro e w9 ⟨rfl, rfl⟩
    generalize lfT m2 tc = m3 at h3
    go_wp2_with fail
    go_ret
    exact ⟨⟨-1, rfl, by decide, fun h => by omega⟩, bel_new _ _⟩
  · go_enter Tryz.func87, Tryz.ntmps87
    go_wp2_with fail
    refine (HS1.out _ L0 h00 h01).mono ?_
    rintro e w9 ⟨rfl, rfl⟩
    generalize lfT L0 ta = m1 at h1 h2 h3 HQ HL HM3
    go_wp2_with fail
    refine (HS2.out _ m1 HQ.out.1.1 HQ.out.1.2).mono ?_
    rintro e w9 ⟨rfl, rfl⟩
    generalize lfT m1 tb = m2 at h2 h3 HQ HL HM3
    go_wp2_with fail
    refine (HS3.out _ m2 HQ.out.2.1 HQ.out.2.2).mono ?_
    rintro e w9 ⟨rfl, rfl⟩
    generalize lfT m2 tc = m3 at h3 HL HM3
    go_wp2_with fail
    go_ret
    exact ⟨⟨m3, rfl, HM3.out, fun _ => HL.out h3⟩, bel_new _ _⟩

set_option maxRecDepth 100000 in
set_option maxHeartbeats 1600000 in
theorem szS_any (v : Value) (xs : List Ks) (l : Int) (w : World) (h : Row w v xs) (hm : ∀ x ∈ xs, Tz maxLen x) (hz : xs.length ≤ maxLen) (h0 : 0 ≤ l) (hl : l ≤ 1048576) :
    Calls Tryz.prog 55 #[v, .int .i64 l] w fun e w' => (∃ r : Int, e = .returned (.int .i64 r) ∧ (¬ r < 0 → xs.length ≤ 1048576 ∧ ∀ x ∈ xs, Tz 1048576 x)) ∧ Below w.heap.size w w' := by
  have hz2 : xs.length ≤ 9223372036854775807 := by unfold maxLen at hz; omega
  have HM : Hid (∀ x ∈ xs, Tz maxLen x) := hm
  have HR : Hid (Row w v xs) := h
  obtain ⟨a, cap, rfl⟩ := RowG.slice h
  clear hz hm h
  by_cases hb : l < (xs.length : Int)
  · have hb' : l - (xs.length : Int) < 0 := by omega
    go_enter Tryz.func55, Tryz.ntmps55
    go_wp2_with fail
    go_ret
    exact ⟨⟨-1, rfl, fun h => absurd h (by decide)⟩, Below.refl _ _⟩
  have hb' : ¬ l - (xs.length : Int) < 0 := by omega
  have HXL : Hid (xs.length ≤ 1048576) := by show _ ≤ _; omega
  go_enter Tryz.func55, Tryz.ntmps55
  go_wp2_with fail
  go_loopw [1, 5] (fun l0 i wr => ∃ (k : Nat) (q : Int), k ≤ xs.length ∧ i = .int .i64 k ∧ l0 = .int .i64 q ∧ 0 ≤ q ∧ q ≤ 1048576 ∧ Hid (∀ j x, j < k → xs[j]? = some x → Tz 1048576 x) ∧ Hid (Below w.heap.size w wr)) (fun _ i _ => xs.length - (intOf i).toNat)
  case atStart => exact ⟨0, l - xs.length, by omega, rfl, rfl, by omega, by omega, fun j x hj => by omega, Below.refl _ _⟩
  case round =>
    obtain ⟨k, q, hk, rfl, rfl, hq0, hq1, HJ, HB⟩ := hrel
    by_cases hlt : k < xs.length
    · obtain ⟨x, hx⟩ := Rg.get_at hlt
      obtain ⟨b, off, rfl, hbl, va, vb, vc, c0, c1, c2, c3, r1, r2, r3⟩ := RowG.at (HR.out.below HB.out) rfl hx
      have HK : Hid (xs[k]? = some x) := hx
      have HMk : Hid (Tz maxLen x) := HM.out _ (Rg.mem_at hx)
      have HS := sz1_any q hq0 hq1 x.i va vb vc x.a x.b x.c wr r1 r2 r3 HMk.out.1.1 HMk.out.1.2.1 HMk.out.1.2.2 HMk.out.2.1 HMk.out.2.2.1 HMk.out.2.2.2
      obtain ⟨a1, k1, rfl, _⟩ := r1
      obtain ⟨a2, k2, rfl, _⟩ := r2
      obtain ⟨a3, k3, rfl, _⟩ := r3
      clear hx
      go_wp2_with fail
      refine HS.mono ?_
      rintro e w1 ⟨⟨m, rfl, hm1, hmz⟩, b1⟩
      have B1 : Hid (Below w.heap.size w w1) := HB.out.trans (b1.mono HB.out.size)
      have HMZ : Hid (0 ≤ m → x.a.length ≤ 1048576 ∧ x.b.length ≤ 1048576 ∧ x.c.length ≤ 1048576) := hmz
      clear b1 HS hmz c0 c1 c2 c3
      by_cases hneg : m < 0
      · go_wp2_with fail
        go_ret
        exact ⟨⟨-1, rfl, fun h => absurd h (by decide)⟩, B1.out⟩
      · go_wp2_with fail
        exact ⟨⟨k + 1, m, by omega, by go_num, rfl, by omega, hm1, fun j y hj hy => by
          by_cases e : j = k
          · subst e
            rw [HK.out] at hy
            cases hy
            exact ⟨HMZ.out (by omega), HMk.out.2⟩
          · exact HJ.out j y (by omega) hy, B1⟩, by simp [intOf]; omega⟩
    · go_wp2_with fail
      go_ret
      exact ⟨⟨_, rfl, fun _ => ⟨HXL.out, fun x hx => by
        obtain ⟨j, hj, e⟩ := List.getElem_of_mem hx
        exact HJ.out j x (by omega) (by rw [List.getElem?_eq_getElem hj, e])⟩⟩, HB.out⟩
set_option maxRecDepth 100000 in
set_option maxHeartbeats 1600000 in
theorem eqS_same (v u : Value) (xs : List Ks) (w : World) (h : Row w v xs) (g : Row w u xs) (hl : xs.length ≤ 1048576) (hm : ∀ x ∈ xs, x.a.length ≤ 1048576 ∧ x.b.length ≤ 1048576 ∧ x.c.length ≤ 1048576) :
    Calls Tryz.prog 50 #[v, u] w fun e w' => e = .returned (.bool true) ∧ Below w.heap.size w w' := by
  have HR : Hid (Row w v xs) := h
  have HG : Hid (Row w u xs) := g
  have HM : Hid (∀ x ∈ xs, x.a.length ≤ 1048576 ∧ x.b.length ≤ 1048576 ∧ x.c.length ≤ 1048576) := hm
  obtain ⟨a, cap, rfl⟩ := RowG.slice h
  obtain ⟨a', cap', rfl⟩ := RowG.slice g
  have hn : ((xs.length : Int) != (xs.length : Int)) = false := by simp
  clear h g hm
  go_enter Tryz.func50, Tryz.ntmps50
  go_wp2_with fail
  go_loopw [5] (fun i wr => ∃ k : Nat, k ≤ xs.length ∧ i = .int .i64 k ∧ Hid (Below w.heap.size w wr)) (fun i _ => xs.length - (intOf i).toNat)
  case atStart => exact ⟨0, by omega, rfl, Below.refl _ _⟩
  case round =>
    obtain ⟨k, hk, rfl, HB⟩ := hrel
    by_cases hlt : k < xs.length
    · obtain ⟨x, hx⟩ := Rg.get_at hlt
      obtain ⟨b, off, rfl, hbl, va, vb, vc, c0, c1, c2, c3, r1, r2, r3⟩ := RowG.at (HR.out.below HB.out) rfl hx
      obtain ⟨b', off', rfl, hbl', va', vb', vc', d0, d1, d2, d3, t1, t2, t3⟩ := RowG.at (HG.out.below HB.out) rfl hx
      have hmx := HM.out x (Rg.mem_at hx)
      have HE0 : Hid (∀ W', Below wr.heap.size wr W' → Calls Tryz.prog 84 #[.agg #[.int .i64 x.i, va, vb, vc], .agg #[.int .i64 x.i, va', vb', vc']] W' fun e w' => e = .returned (.bool true) ∧ Below W'.heap.size W' w') := fun W' hW => eqSig_big x.i va vb vc va' vb' vc' x.a x.b x.c W' (r1.below hW) (r2.below hW) (r3.below hW) (t1.below hW) (t2.below hW) (t3.below hW) hmx.1 hmx.2.1 hmx.2.2
      obtain ⟨a1, k1, rfl, _⟩ := r1
      obtain ⟨a2, k2, rfl, _⟩ := r2
      obtain ⟨a3, k3, rfl, _⟩ := r3
      obtain ⟨a4, k4, rfl, _⟩ := t1
      obtain ⟨a5, k5, rfl, _⟩ := t2
      obtain ⟨a6, k6, rfl, _⟩ := t3
      clear hx hmx
      have hI : (k : Int) < (xs.length : Int) := by omega
      go_upto_region 6 with fail
      obtain ⟨X, hX, W, QI0, QO0⟩ := Qc.klass wr
      have QI : Hid (∀ w', Below wr.heap.size wr w' → ∃ x, w' = W x) := QI0
      have QO : Hid (∀ x, Below wr.heap.size wr (W x)) := QO0
      clear QI0 QO0
      have HE : Hid (∀ q, Calls Tryz.prog 84 #[.agg #[.int .i64 x.i, .slice a1 x.a.length k1, .slice a2 x.b.length k2, .slice a3 x.c.length k3], .agg #[.int .i64 x.i, .slice a4 x.a.length k4, .slice a5 x.b.length k5, .slice a6 x.c.length k6]] (W q) fun e w' => e = .returned (.bool true) ∧ Below (W q).heap.size (W q) w') := fun q => HE0.out _ (QO.out q)
      have y0 := Qc.cell_all QO.out c0
      have y1 := Qc.cell_all QO.out c1
      have y2 := Qc.cell_all QO.out c2
      have y3 := Qc.cell_all QO.out c3
      have z0 := Qc.cell_all QO.out d0
      have z1 := Qc.cell_all QO.out d1
      have z2 := Qc.cell_all QO.out d2
      have z3 := Qc.cell_all QO.out d3
      clear c0 c1 c2 c3 d0 d1 d2 d3
      refine Qc.region_class (W := W) (by kernel_rfl) (by kernel_rfl) (QI.out _ Qc.from_drew) ?_
      repeat (go_big_quiet_step (first | (go_at_call 84; refine (HE.out _).mono ?_; rintro e w2 ⟨rfl, b2⟩; exact ⟨rfl, Qc.back QI.out QO.out b2⟩)))
      refine wpQuiet_nil ?_
      rintro _ ⟨xq, rfl⟩
      have B1 : Hid (Below w.heap.size w (W xq)) := HB.out.trans ((QO.out xq).mono HB.out.size)
      clear y0 y1 y2 y3 z0 z1 z2 z3 QO QI
      generalize W xq = w1 at B1 ⊢
      go_wp2_with fail
      exact ⟨⟨k + 1, by omega, by go_num, B1⟩, by simp [intOf]; omega⟩
    · go_wp2_with fail
      go_ret
      exact ⟨rfl, HB.out⟩
/-- The block of a slice lies from B on. -/
def From (B : Nat) (v : Value) : Prop := ∀ k, v.ownBlock = some k → B ≤ k
theorem From.mono {B B' : Nat} {v : Value} (h : From B v) (hb : B' ≤ B) : From B' v := fun k hk => Nat.le_trans hb (h k hk)
theorem from_sl {B g n c : Nat} (h : B ≤ g) : From B (.slice (some ⟨g, 0, none⟩) n c) := fun k e => by
  simp only [Value.ownBlock, Option.some.injEq] at e
  omega
set_option maxRecDepth 100000 in
set_option maxHeartbeats 1600000 in
theorem toK_any (i : Int) (ua ub uc : Value) (ta tb tc : List ByteArray) (w : World) (ra : RowT w ua ta) (rb : RowT w ub tb) (rc : RowT w uc tc) (la : ta.length ≤ 1048576) (lb : tb.length ≤ 1048576) (lc : tc.length ≤ 1048576) :
    Calls Tryz.prog 88 #[.agg #[.int .i64 i, ua, ub, uc]] w fun e w' => ∃ va vb vc, e = .returned (.agg #[.int .i64 i, va, vb, vc]) ∧ RowT w' va ta ∧ RowT w' vb tb ∧ RowT w' vc tc ∧ (From w.heap.size va ∧ From w.heap.size vb ∧ From w.heap.size vc) ∧ Below w.heap.size w w' := by
  have HR : Hid (RowT w ua ta ∧ RowT w ub tb ∧ RowT w uc tc ∧ ta.length ≤ 1048576 ∧ tb.length ≤ 1048576 ∧ tc.length ≤ 1048576) := ⟨ra, rb, rc, la, lb, lc⟩
  obtain ⟨a1, c1, rfl, _⟩ := ra
  obtain ⟨a2, c2, rfl, _⟩ := rb
  obtain ⟨a3, c3, rfl, _⟩ := rc
  have S0 : Hid _ := start3 w i (.slice a1 ta.length c1) (.slice a2 tb.length c2) (.slice a3 tc.length c3)
  clear la lb lc
  go_enter Tryz.func88, Tryz.ntmps88
  go_wp2_with fail
  refine (toStringS_any _ ta _ (HR.out.1.below S0.out.be) HR.out.2.2.2.1).mono ?_
  rintro e w1 ⟨v1, rfl, o1, b1⟩
  have r1 := o1.row
  obtain ⟨g1, A1, rfl, h1, _⟩ := o1
  have C1 : Hid (Cpy w w1 i (.slice a1 ta.length c1) (.slice a2 tb.length c2) (.slice a3 tc.length c3) (.slice none 0 0) (.slice none 0 0) (.slice none 0 0)) := S0.out.below b1
  obtain ⟨f1, f2⟩ := blk_cell C1.out.ou 1 (x := .slice none 0 0) rfl
  have D1 : Hid (Cpy w (w1.setCell ⟨w.heap.size + 1 + 1, 1, none⟩ (.slice (some ⟨g1, 0, none⟩) ta.length ta.length)) i (.slice a1 ta.length c1) (.slice a2 tb.length c2) (.slice a3 tc.length c3) (.slice (some ⟨g1, 0, none⟩) ta.length ta.length) (.slice none 0 0) (.slice none 0 0)) := C1.out.set1 _
  have hg1 : w.heap.size + 1 + 1 + 1 ≤ g1 := Nat.le_trans S0.out.sz h1
  have R1 : Hid (RowT (w1.setCell ⟨w.heap.size + 1 + 1, 1, none⟩ (.slice (some ⟨g1, 0, none⟩) ta.length ta.length)) (.slice (some ⟨g1, 0, none⟩) ta.length ta.length) ta) := row_far r1 (at_far (by omega))
  have p2 := (blk_cell D1.out.bx 2 (x := .slice a2 tb.length c2) rfl).1
  clear r1 b1 h1
  go_upto_region 4 with fail
  generalize (w1.setCell ⟨w.heap.size + 1 + 1, 1, none⟩ (.slice (some ⟨g1, 0, none⟩) ta.length ta.length)) = w2 at D1 R1 p2 ⊢
  clear f1 f2
  go_wp2_with fail
  refine (toStringS_any _ tb _ (HR.out.2.1.below D1.out.be) HR.out.2.2.2.2.1).mono ?_
  rintro e w3 ⟨v2, rfl, o2, b2⟩
  have r2 := o2.row
  obtain ⟨g2, A2, rfl, h2, _⟩ := o2
  have C2 := D1.out.below b2
  obtain ⟨f1, f2⟩ := blk_cell C2.ou 2 (x := .slice none 0 0) rfl
  have D2 : Hid (Cpy w (w3.setCell ⟨w.heap.size + 1 + 1, 2, none⟩ (.slice (some ⟨g2, 0, none⟩) tb.length tb.length)) i (.slice a1 ta.length c1) (.slice a2 tb.length c2) (.slice a3 tc.length c3) (.slice (some ⟨g1, 0, none⟩) ta.length ta.length) (.slice (some ⟨g2, 0, none⟩) tb.length tb.length) (.slice none 0 0)) := C2.set2 _
  have hg2 : w.heap.size + 1 + 1 + 1 ≤ g2 := Nat.le_trans D1.out.sz h2
  have R2 : Hid (RowT (w3.setCell ⟨w.heap.size + 1 + 1, 2, none⟩ (.slice (some ⟨g2, 0, none⟩) tb.length tb.length)) (.slice (some ⟨g1, 0, none⟩) ta.length ta.length) ta ∧ RowT (w3.setCell ⟨w.heap.size + 1 + 1, 2, none⟩ (.slice (some ⟨g2, 0, none⟩) tb.length tb.length)) (.slice (some ⟨g2, 0, none⟩) tb.length tb.length) tb) := ⟨row_far (R1.out.below b2) (at_far (by omega)), row_far r2 (at_far (by omega))⟩
  have p3 := (blk_cell D2.out.bx 3 (x := .slice a3 tc.length c3) rfl).1
  clear r2 b2 h2 C2 p2
  go_upto_region 5 with fail
  generalize (w3.setCell ⟨w.heap.size + 1 + 1, 2, none⟩ (.slice (some ⟨g2, 0, none⟩) tb.length tb.length)) = w4 at D2 R2 p3 ⊢
  clear f1 f2
  go_wp2_with fail
  refine (toStringS_any _ tc _ (HR.out.2.2.1.below D2.out.be) HR.out.2.2.2.2.2).mono ?_
  rintro e w5 ⟨v3, rfl, o3, b3⟩
  have r3 := o3.row
  obtain ⟨g3, A3, rfl, h3, _⟩ := o3
  have C3 := D2.out.below b3
  obtain ⟨f1, f2⟩ := blk_cell C3.ou 3 (x := .slice none 0 0) rfl
  have D3 : Hid (Cpy w (w5.setCell ⟨w.heap.size + 1 + 1, 3, none⟩ (.slice (some ⟨g3, 0, none⟩) tc.length tc.length)) i (.slice a1 ta.length c1) (.slice a2 tb.length c2) (.slice a3 tc.length c3) (.slice (some ⟨g1, 0, none⟩) ta.length ta.length) (.slice (some ⟨g2, 0, none⟩) tb.length tb.length) (.slice (some ⟨g3, 0, none⟩) tc.length tc.length)) := C3.set3 _
  have hg3 : w.heap.size + 1 + 1 + 1 ≤ g3 := Nat.le_trans D2.out.sz h3
  have R3 : Hid (RowT (w5.setCell ⟨w.heap.size + 1 + 1, 3, none⟩ (.slice (some ⟨g3, 0, none⟩) tc.length tc.length)) (.slice (some ⟨g1, 0, none⟩) ta.length ta.length) ta ∧ RowT (w5.setCell ⟨w.heap.size + 1 + 1, 3, none⟩ (.slice (some ⟨g3, 0, none⟩) tc.length tc.length)) (.slice (some ⟨g2, 0, none⟩) tb.length tb.length) tb ∧ RowT (w5.setCell ⟨w.heap.size + 1 + 1, 3, none⟩ (.slice (some ⟨g3, 0, none⟩) tc.length tc.length)) (.slice (some ⟨g3, 0, none⟩) tc.length tc.length) tc) := ⟨row_far (R2.out.1.below b3) (at_far (by omega)), row_far (R2.out.2.below b3) (at_far (by omega)), row_far r3 (at_far (by omega))⟩
  clear r3 b3 h3 C3 p3
  go_upto_region 6 with fail
  generalize (w5.setCell ⟨w.heap.size + 1 + 1, 3, none⟩ (.slice (some ⟨g3, 0, none⟩) tc.length tc.length)) = w6 at D3 R3 ⊢
  clear f1 f2
  have k0 := (blk_cell D3.out.ou 0 (x := .int .i64 i) rfl).1
  have k1 := (blk_cell D3.out.ou 1 (x := .slice (some ⟨g1, 0, none⟩) ta.length ta.length) rfl).1
  have k2 := (blk_cell D3.out.ou 2 (x := .slice (some ⟨g2, 0, none⟩) tb.length tb.length) rfl).1
  have k3 := (blk_cell D3.out.ou 3 (x := .slice (some ⟨g3, 0, none⟩) tc.length tc.length) rfl).1
  obtain ⟨zc0, zf0⟩ := blk_cell D3.out.rs 0 (x := .int .i64 0) rfl
  obtain ⟨zc1, zf1⟩ := blk_cell D3.out.rs 1 (x := .slice none 0 0) rfl
  obtain ⟨zc2, zf2⟩ := blk_cell D3.out.rs 2 (x := .slice none 0 0) rfl
  obtain ⟨zc3, zf3⟩ := blk_cell D3.out.rs 3 (x := .slice none 0 0) rfl
  have AF : ((((w6.setCell ⟨w.heap.size + 1, 0, none⟩ (.int .i64 i)).setCell ⟨w.heap.size + 1, 1, none⟩ (.slice (some ⟨g1, 0, none⟩) ta.length ta.length)).setCell ⟨w.heap.size + 1, 2, none⟩ (.slice (some ⟨g2, 0, none⟩) tb.length tb.length)).setCell ⟨w.heap.size + 1, 3, none⟩ (.slice (some ⟨g3, 0, none⟩) tc.length tc.length)).heap[w.heap.size + 1]? = some (.cells #[.int .i64 i, .slice (some ⟨g1, 0, none⟩) ta.length ta.length, .slice (some ⟨g2, 0, none⟩) tb.length tb.length, .slice (some ⟨g3, 0, none⟩) tc.length tc.length] 37 (0, 0)) := (blk_set (blk_set (blk_set (blk_set D3.out.rs 0 (.int .i64 i)) 1 (.slice (some ⟨g1, 0, none⟩) ta.length ta.length)) 2 (.slice (some ⟨g2, 0, none⟩) tb.length tb.length)) 3 (.slice (some ⟨g3, 0, none⟩) tc.length tc.length))
  have GF : Below w.heap.size w ((((w6.setCell ⟨w.heap.size + 1, 0, none⟩ (.int .i64 i)).setCell ⟨w.heap.size + 1, 1, none⟩ (.slice (some ⟨g1, 0, none⟩) ta.length ta.length)).setCell ⟨w.heap.size + 1, 2, none⟩ (.slice (some ⟨g2, 0, none⟩) tb.length tb.length)).setCell ⟨w.heap.size + 1, 3, none⟩ (.slice (some ⟨g3, 0, none⟩) tc.length tc.length)) := (Below.setCell (Below.setCell (Below.setCell (Below.setCell D3.out.be (p := ⟨w.heap.size + 1, 0, none⟩) (by simp <;> omega) (.int .i64 i)) (p := ⟨w.heap.size + 1, 1, none⟩) (by simp <;> omega) (.slice (some ⟨g1, 0, none⟩) ta.length ta.length)) (p := ⟨w.heap.size + 1, 2, none⟩) (by simp <;> omega) (.slice (some ⟨g2, 0, none⟩) tb.length tb.length)) (p := ⟨w.heap.size + 1, 3, none⟩) (by simp <;> omega) (.slice (some ⟨g3, 0, none⟩) tc.length tc.length))
  have RF : RowT ((((w6.setCell ⟨w.heap.size + 1, 0, none⟩ (.int .i64 i)).setCell ⟨w.heap.size + 1, 1, none⟩ (.slice (some ⟨g1, 0, none⟩) ta.length ta.length)).setCell ⟨w.heap.size + 1, 2, none⟩ (.slice (some ⟨g2, 0, none⟩) tb.length tb.length)).setCell ⟨w.heap.size + 1, 3, none⟩ (.slice (some ⟨g3, 0, none⟩) tc.length tc.length)) (.slice (some ⟨g1, 0, none⟩) ta.length ta.length) ta ∧ RowT ((((w6.setCell ⟨w.heap.size + 1, 0, none⟩ (.int .i64 i)).setCell ⟨w.heap.size + 1, 1, none⟩ (.slice (some ⟨g1, 0, none⟩) ta.length ta.length)).setCell ⟨w.heap.size + 1, 2, none⟩ (.slice (some ⟨g2, 0, none⟩) tb.length tb.length)).setCell ⟨w.heap.size + 1, 3, none⟩ (.slice (some ⟨g3, 0, none⟩) tc.length tc.length)) (.slice (some ⟨g2, 0, none⟩) tb.length tb.length) tb ∧ RowT ((((w6.setCell ⟨w.heap.size + 1, 0, none⟩ (.int .i64 i)).setCell ⟨w.heap.size + 1, 1, none⟩ (.slice (some ⟨g1, 0, none⟩) ta.length ta.length)).setCell ⟨w.heap.size + 1, 2, none⟩ (.slice (some ⟨g2, 0, none⟩) tb.length tb.length)).setCell ⟨w.heap.size + 1, 3, none⟩ (.slice (some ⟨g3, 0, none⟩) tc.length tc.length)) (.slice (some ⟨g3, 0, none⟩) tc.length tc.length) tc := ⟨(row_far (j := 3) (x := .slice (some ⟨g3, 0, none⟩) tc.length tc.length) (row_far (j := 2) (x := .slice (some ⟨g2, 0, none⟩) tb.length tb.length) (row_far (j := 1) (x := .slice (some ⟨g1, 0, none⟩) ta.length ta.length) (row_far (j := 0) (x := .int .i64 i) R3.out.1 (at_far (by omega))) (at_far (by omega))) (at_far (by omega))) (at_far (by omega))), (row_far (j := 3) (x := .slice (some ⟨g3, 0, none⟩) tc.length tc.length) (row_far (j := 2) (x := .slice (some ⟨g2, 0, none⟩) tb.length tb.length) (row_far (j := 1) (x := .slice (some ⟨g1, 0, none⟩) ta.length ta.length) (row_far (j := 0) (x := .int .i64 i) R3.out.2.1 (at_far (by omega))) (at_far (by omega))) (at_far (by omega))) (at_far (by omega))), (row_far (j := 3) (x := .slice (some ⟨g3, 0, none⟩) tc.length tc.length) (row_far (j := 2) (x := .slice (some ⟨g2, 0, none⟩) tb.length tb.length) (row_far (j := 1) (x := .slice (some ⟨g1, 0, none⟩) ta.length ta.length) (row_far (j := 0) (x := .int .i64 i) R3.out.2.2 (at_far (by omega))) (at_far (by omega))) (at_far (by omega))) (at_far (by omega)))⟩
  go_wp2_with fail
  generalize ((((w6.setCell ⟨w.heap.size + 1, 0, none⟩ (.int .i64 i)).setCell ⟨w.heap.size + 1, 1, none⟩ (.slice (some ⟨g1, 0, none⟩) ta.length ta.length)).setCell ⟨w.heap.size + 1, 2, none⟩ (.slice (some ⟨g2, 0, none⟩) tb.length tb.length)).setCell ⟨w.heap.size + 1, 3, none⟩ (.slice (some ⟨g3, 0, none⟩) tc.length tc.length)) = wf at AF GF RF ⊢
  have d0 := (blk_cell AF 0 (x := .int .i64 i) rfl).1
  have d1 := (blk_cell AF 1 (x := .slice (some ⟨g1, 0, none⟩) ta.length ta.length) rfl).1
  have d2 := (blk_cell AF 2 (x := .slice (some ⟨g2, 0, none⟩) tb.length tb.length) rfl).1
  have d3 := (blk_cell AF 3 (x := .slice (some ⟨g3, 0, none⟩) tc.length tc.length) rfl).1
  refine bodyPost_ret (v := .agg #[.int .i64 i, .slice (some ⟨g1, 0, none⟩) ta.length ta.length, .slice (some ⟨g2, 0, none⟩) tb.length tb.length, .slice (some ⟨g3, 0, none⟩) tc.length tc.length]) (by simp [results, Tryz.results88, go_sem, d0, d1, d2, d3]) rfl ⟨_, _, _, rfl, RF.1, RF.2.1, RF.2.2, ⟨from_sl (by omega), from_sl (by omega), from_sl (by omega)⟩, GF⟩

set_option maxHeartbeats 400000 in
theorem toI_any (v : Value) (xs : List Int) (w : World) (h : Is.RowI w v xs) (hl : xs.length ≤ 1048576) :
    Calls Tryz.prog 19 #[v] w fun e w' => ∃ v', e = .returned v' ∧ Is.RowI w' v' xs ∧ From w.heap.size v' ∧ Below w.heap.size w w' := by
  obtain ⟨a, cap, rfl, h, hr⟩ := h
  obtain ⟨i0, hi, hz0, hz1, hz2⟩ := info_parts Is.info3
  have hmk := run_make (P := Tryz.prog) w 26 3 i0 (.int .i64 0) Tryz.underlying26 hi hz0 .i64 .i64 (xs.length : Int) (xs.length : Int) (by omega) (by omega) (by rw [hz2]; omega) (by omega)
  have hA0 : Is.Copied xs 0 (madeCells (Value.int .i64 0).cells ((xs.length : Int).toNat * i0.size)) := ⟨by rw [hz1]; simp [madeCells, Value.cells], fun j hj => absurd hj (by omega)⟩
  generalize madeCells (Value.int .i64 0).cells ((xs.length : Int).toNat * i0.size) = A0 at hmk hA0
  rw [Int.toNat_natCast] at hmk
  go_enter Tryz.func19, Tryz.ntmps19
  go_wp2_with fail
  clear hmk
  go_loopw [4] (fun i wr => ∃ k : Nat, ∃ A : Array Value, k ≤ xs.length ∧ i = .int .i64 k ∧ wr = w.alloc (.cells A 3) ∧ Is.Copied xs k A) (fun i _ => xs.length - (intOf i).toNat)
  case atStart => exact ⟨0, A0, by omega, rfl, rfl, hA0⟩
  case round =>
    clear hA0
    obtain ⟨k, A, hk, rfl, rfl, hA⟩ := hrel
    by_cases hlt : k < xs.length
    · rcases h with h | ⟨b, off, rfl, hc, hb, hcell⟩
      · exact absurd hlt (by rw [h]; simp)
      have hc1 := hcell k hlt
      have hne : b ≠ w.heap.size := by omega
      obtain ⟨x, hx⟩ : ∃ x, A[k]? = some x := ⟨_, Array.getElem?_eq_getElem (by rw [hA.1]; exact hlt)⟩
      clear hcell
      have hA' : Is.Copied xs (k + 1) (A.setIfInBounds k (.int .i64 (nth xs k))) := by
        refine ⟨by rw [Array.size_setIfInBounds]; exact hA.1, fun j hj => ?_⟩
        rw [Array.getElem?_setIfInBounds]
        by_cases e : k = j
        · subst e
          rw [if_pos rfl, if_pos (by rw [hA.1]; exact hlt)]
        · rw [if_neg e]
          exact hA.2 j (by omega)
      go_wp2
      go_roundw
      case rel => exact ⟨k + 1, _, by omega, by go_num, rfl, hA'⟩
      case measure => simp [intOf]; omega
    · obtain rfl : k = xs.length := by omega
      go_wp2
      go_ret
      refine ⟨_, rfl, ⟨_, _, rfl, .inr ⟨w.heap.size, 0, rfl, Nat.le_refl _, by simp, fun i hi => ?_⟩, hr⟩, from_sl (Nat.le_refl _), (Below.refl _ _).alloc (Nat.le_refl _) _⟩
      rw [Nat.zero_add, World.cell?_alloc_at _ _ _ _ rfl]
      exact hA.2 i hi

/-- No cell of these holds a text. -/
def NoS (A : Array Value) : Prop := ∀ (j : Nat) (s : ByteArray), A[j]? ≠ some (.string s)
theorem NoS.set {A : Array Value} (h : NoS A) (i : Nat) {x : Value} (hx : ∀ s, x ≠ .string s) : NoS (A.setIfInBounds i x) := fun j s e => by
  rw [Array.getElem?_setIfInBounds] at e
  split at e
  · split at e
    · injection e with e; exact hx s e
    · cases e
  · exact h j s e
theorem row_other {w : World} {g j : Nat} {v x : Value} {ts : List ByteArray} {A : Array Value} {t : TypeId} (h : RowT w v ts) (hg : w.heap[g]? = some (.cells A t (0, 0))) (hA : NoS A) : RowT (w.setCell ⟨g, j, none⟩ x) v ts := by
  obtain ⟨a, cap, rfl, h⟩ := h
  refine ⟨a, cap, rfl, ?_⟩
  rcases h with h | ⟨b, off, rfl, hc, hlt, h⟩
  · exact .inl h
  · by_cases h0 : ts = []
    · exact .inl h0
    have hpos : 0 < ts.length := List.length_pos_iff.2 h0
    have hne : b ≠ g := fun e => by
      subst e
      have := h 0 hpos
      rw [Joins.cell_of_block hg] at this
      exact hA _ _ this
    refine .inr ⟨b, off, rfl, hc, by simpa [World.setCell] using hlt, fun i hi => ?_⟩
    have h1 := h i hi
    have h2 := Rg.blk_far (w := w) (b := g) (k := b) hne j x
    simpa only [World.cell?, h2] using h1
/-- Of a copy the first k are written. -/
def Cp (B : Nat) (w : World) (A : Array Value) (xs : List Ks) (k : Nat) : Prop := A.size = xs.length * 4 ∧ NoS A ∧ ∀ (j : Nat) (x : Ks), j < k → xs[j]? = some x → ∃ va vb vc, A[j * 4]? = some (.int .i64 x.i) ∧ A[j * 4 + 1]? = some va ∧ A[j * 4 + 2]? = some vb ∧ A[j * 4 + 3]? = some vc ∧ RowT w va x.a ∧ RowT w vb x.b ∧ RowT w vc x.c ∧ From B va ∧ From B vb ∧ From B vc
theorem Cp.below {B : Nat} {w w' : World} {A : Array Value} {xs : List Ks} {k : Nat} (h : Cp B w A xs k) (hb : Below w.heap.size w w') : Cp B w' A xs k := ⟨h.1, h.2.1, fun j x hj hx => by
  obtain ⟨va, vb, vc, h0, h1, h2, h3, r1, r2, r3, f⟩ := h.2.2 j x hj hx
  exact ⟨va, vb, vc, h0, h1, h2, h3, r1.below hb, r2.below hb, r3.below hb, f⟩⟩
def put4 (A : Array Value) (k : Nat) (i : Int) (va vb vc : Value) : Array Value := (((A.setIfInBounds (k * 4) (.int .i64 i)).setIfInBounds (k * 4 + 1) va).setIfInBounds (k * 4 + 2) vb).setIfInBounds (k * 4 + 3) vc
theorem put4_at (A : Array Value) (k : Nat) (i : Int) (va vb vc : Value) (hk : k * 4 + 3 < A.size) (q : Nat) : (put4 A k i va vb vc)[q]? = if q = k * 4 + 3 then some vc else if q = k * 4 + 2 then some vb else if q = k * 4 + 1 then some va else if q = k * 4 then some (.int .i64 i) else A[q]? := by
  unfold put4
  simp only [Array.getElem?_setIfInBounds, Array.size_setIfInBounds]
  by_cases h3 : k * 4 + 3 = q
  · have e3 : q = k * 4 + 3 := h3.symm
    rw [if_pos h3, if_pos (by omega), if_pos e3]
  have e3 : ¬ q = k * 4 + 3 := fun e => h3 e.symm
  rw [if_neg h3, if_neg e3]
  by_cases h2 : k * 4 + 2 = q
  · have e2 : q = k * 4 + 2 := h2.symm
    rw [if_pos h2, if_pos (by omega), if_pos e2]
  have e2 : ¬ q = k * 4 + 2 := fun e => h2 e.symm
  rw [if_neg h2, if_neg e2]
  by_cases h1 : k * 4 + 1 = q
  · have e1 : q = k * 4 + 1 := h1.symm
    rw [if_pos h1, if_pos (by omega), if_pos e1]
  have e1 : ¬ q = k * 4 + 1 := fun e => h1 e.symm
  rw [if_neg h1, if_neg e1]
  by_cases h0 : k * 4 = q
  · have e0 : q = k * 4 := h0.symm
    rw [if_pos h0, if_pos (by omega), if_pos e0]
  have e0 : ¬ q = k * 4 := fun e => h0 e.symm
  rw [if_neg h0, if_neg e0]
/-- One more of a copy is written. -/
theorem Cp.put {B : Nat} {w : World} {A : Array Value} {xs : List Ks} {k g : Nat} (h : Cp B w A xs k) (hg : w.heap[g]? = some (.cells A 37 (0, 0))) {x : Ks} (hx : xs[k]? = some x) {va vb vc : Value} (r1 : RowT w va x.a) (r2 : RowT w vb x.b) (r3 : RowT w vc x.c) (f1 : From B va) (f2 : From B vb) (f3 : From B vc) :
    ((((w.setCell ⟨g, k * 4, none⟩ (.int .i64 x.i)).setCell ⟨g, k * 4 + 1, none⟩ va).setCell ⟨g, k * 4 + 2, none⟩ vb).setCell ⟨g, k * 4 + 3, none⟩ vc).heap[g]? = some (.cells (put4 A k x.i va vb vc) 37 (0, 0)) ∧
    Cp B ((((w.setCell ⟨g, k * 4, none⟩ (.int .i64 x.i)).setCell ⟨g, k * 4 + 1, none⟩ va).setCell ⟨g, k * 4 + 2, none⟩ vb).setCell ⟨g, k * 4 + 3, none⟩ vc) (put4 A k x.i va vb vc) xs (k + 1) := by
  have hk : k < xs.length := Rg.lt_at hx
  have n1 : ∀ s, va ≠ .string s := fun s e => by obtain ⟨_, _, e2, _⟩ := r1; rw [e] at e2; cases e2
  have n2 : ∀ s, vb ≠ .string s := fun s e => by obtain ⟨_, _, e2, _⟩ := r2; rw [e] at e2; cases e2
  have n3 : ∀ s, vc ≠ .string s := fun s e => by obtain ⟨_, _, e2, _⟩ := r3; rw [e] at e2; cases e2
  have g1 := Rg.blk_set hg (k * 4) (.int .i64 x.i)
  have g2 := Rg.blk_set g1 (k * 4 + 1) va
  have g3 := Rg.blk_set g2 (k * 4 + 2) vb
  have g4 := Rg.blk_set g3 (k * 4 + 3) vc
  have N1 := h.2.1.set (k * 4) (x := .int .i64 x.i) (fun s e => by cases e)
  have N2 := N1.set (k * 4 + 1) n1
  have N3 := N2.set (k * 4 + 2) n2
  have far : ∀ {v : Value} {ts : List ByteArray}, RowT w v ts → RowT ((((w.setCell ⟨g, k * 4, none⟩ (.int .i64 x.i)).setCell ⟨g, k * 4 + 1, none⟩ va).setCell ⟨g, k * 4 + 2, none⟩ vb).setCell ⟨g, k * 4 + 3, none⟩ vc) v ts := fun hr => row_other (row_other (row_other (row_other hr hg h.2.1) g1 N1) g2 N2) g3 N3
  have hA : k * 4 + 3 < A.size := by rw [h.1]; omega
  refine ⟨g4, by unfold put4; simpa using h.1, N3.set (k * 4 + 3) n3, fun j y hj hy => ?_⟩
  by_cases e : j = k
  · subst e
    rw [hx] at hy
    cases hy
    refine ⟨va, vb, vc, ?_, ?_, ?_, ?_, far r1, far r2, far r3, f1, f2, f3⟩
    · rw [put4_at _ _ _ _ _ _ hA, if_neg (by omega), if_neg (by omega), if_neg (by omega), if_pos rfl]
    · rw [put4_at _ _ _ _ _ _ hA, if_neg (by omega), if_neg (by omega), if_pos rfl]
    · rw [put4_at _ _ _ _ _ _ hA, if_neg (by omega), if_pos rfl]
    · rw [put4_at _ _ _ _ _ _ hA, if_pos rfl]
  · obtain ⟨ua, ub, uc, h0, h1, h2, h3, t1, t2, t3, ff⟩ := h.2.2 j y (by omega) hy
    refine ⟨ua, ub, uc, ?_, ?_, ?_, ?_, far t1, far t2, far t3, ff⟩
    · rw [put4_at _ _ _ _ _ _ hA, if_neg (by omega), if_neg (by omega), if_neg (by omega), if_neg (by omega)]; exact h0
    · rw [put4_at _ _ _ _ _ _ hA, if_neg (by omega), if_neg (by omega), if_neg (by omega), if_neg (by omega)]; exact h1
    · rw [put4_at _ _ _ _ _ _ hA, if_neg (by omega), if_neg (by omega), if_neg (by omega), if_neg (by omega)]; exact h2
    · rw [put4_at _ _ _ _ _ _ hA, if_neg (by omega), if_neg (by omega), if_neg (by omega), if_neg (by omega)]; exact h3
/-- Signatures in memory from B on. -/
def E1f (B : Nat) (w : World) (b o : Nat) (x : Ks) : Prop := ∃ va vb vc, w.cell? ⟨b, o, none⟩ = some (.int .i64 x.i) ∧ w.cell? ⟨b, o + 1, none⟩ = some va ∧ w.cell? ⟨b, o + 2, none⟩ = some vb ∧ w.cell? ⟨b, o + 3, none⟩ = some vc ∧ RowT w va x.a ∧ RowT w vb x.b ∧ RowT w vc x.c ∧ From B va ∧ From B vb ∧ From B vc
def RowF (B : Nat) (w : World) (v : Value) (xs : List Ks) : Prop := From B v ∧ RowG 4 (E1f B) w v xs
theorem RowF.row {B : Nat} {w : World} {v : Value} {xs : List Ks} (h : RowF B w v xs) : Row w v xs := by
  obtain ⟨_, a, cap, rfl, h⟩ := h
  refine ⟨a, cap, rfl, ?_⟩
  rcases h with h | ⟨b, off, rfl, hc, hlt, h⟩
  · exact .inl h
  · refine .inr ⟨b, off, rfl, hc, hlt, fun i x hi => ?_⟩
    obtain ⟨va, vb, vc, h0, h1, h2, h3, r1, r2, r3, _⟩ := h i x hi
    exact ⟨va, vb, vc, h0, h1, h2, h3, r1, r2, r3⟩
theorem row_low {w : World} {B p j : Nat} {v x : Value} {ts : List ByteArray} (h : RowT w v ts) (hf : From B v) (hp : p < B) : RowT (w.setCell ⟨p, j, none⟩ x) v ts := row_far h (fun k hk e => by have := hf k hk; omega)
theorem RowF.set {B : Nat} {w : World} {v : Value} {xs : List Ks} {p j : Nat} {x : Value} (h : RowF B w v xs) (hp : p < B) : RowF B (w.setCell ⟨p, j, none⟩ x) v xs := by
  obtain ⟨hf, a, cap, rfl, h⟩ := h
  refine ⟨hf, a, cap, rfl, ?_⟩
  rcases h with h | ⟨b, off, rfl, hc, hlt, h⟩
  · exact .inl h
  · have hb : B ≤ b := hf b rfl
    have h2 : (w.setCell ⟨p, j, none⟩ x).heap[b]? = w.heap[b]? := Rg.blk_far (by omega) j x
    refine .inr ⟨b, off, rfl, hc, by simpa [World.setCell] using hlt, fun i y hi => ?_⟩
    obtain ⟨va, vb, vc, h0, h1, h3, h4, r1, r2, r3, f1, f2, f3⟩ := h i y hi
    refine ⟨va, vb, vc, ?_, ?_, ?_, ?_, row_low r1 f1 hp, row_low r2 f2 hp, row_low r3 f3 hp, f1, f2, f3⟩
    · simpa only [World.cell?, h2] using h0
    · simpa only [World.cell?, h2] using h1
    · simpa only [World.cell?, h2] using h3
    · simpa only [World.cell?, h2] using h4
theorem RowI_low {w : World} {B p j : Nat} {v x : Value} {ns : List Int} (h : Is.RowI w v ns) (hf : From B v) (hp : p < B) : Is.RowI (w.setCell ⟨p, j, none⟩ x) v ns := by
  obtain ⟨a, cap, rfl, h, hr⟩ := h
  refine ⟨a, cap, rfl, ?_, hr⟩
  rcases h with h | ⟨b, off, rfl, hc, hlt, h⟩
  · exact .inl h
  · have hb : B ≤ b := hf b rfl
    have h2 : (w.setCell ⟨p, j, none⟩ x).heap[b]? = w.heap[b]? := Rg.blk_far (by omega) j x
    exact .inr ⟨b, off, rfl, hc, by simpa [World.setCell] using hlt, fun i hi => by simpa only [World.cell?, h2] using h i hi⟩
theorem Cp.row {B : Nat} {w : World} {A : Array Value} {xs : List Ks} {g : Nat} (h : Cp B w A xs xs.length) (hgB : B ≤ g) (hg : w.heap[g]? = some (.cells A 37 (0, 0))) : RowF B w (.slice (some ⟨g, 0, none⟩) xs.length xs.length) xs := by
  refine ⟨from_sl hgB, ⟨_, _, rfl, .inr ⟨g, 0, rfl, Nat.le_refl _, (Array.getElem?_eq_some_iff.1 hg).1, fun i x hi => ?_⟩⟩⟩
  obtain ⟨va, vb, vc, h0, h1, h2, h3, r1, r2, r3, ff⟩ := h.2.2 i x (Rg.lt_at hi) hi
  refine ⟨va, vb, vc, ?_, ?_, ?_, ?_, r1, r2, r3, ff⟩
  · rw [Nat.zero_add, Joins.cell_of_block hg]; exact h0
  · rw [Nat.zero_add, Joins.cell_of_block hg]; exact h1
  · rw [Nat.zero_add, Joins.cell_of_block hg]; exact h2
  · rw [Nat.zero_add, Joins.cell_of_block hg]; exact h3
end Go.Proofs.YtimmeclclilpdaaGreatDoor.Kc

/- Copies of signatures; certificates of grants: measured, copied, compared, opened. -/
namespace Go.Proofs.YtimmeclclilpdaaGreatDoor.Kc
open Go.RowKit Go.Proofs.YtimmeclclilpdaaGreatDoor.Sl Go.Proofs.YtimmeclclilpdaaGreatDoor.By Go.Proofs.YtimmeclclilpdaaGreatDoor.Ap Go.Proofs.YtimmeclclilpdaaGreatDoor.Tx Go.Proofs.YtimmeclclilpdaaGreatDoor.Mk Go.Proofs.YtimmeclclilpdaaGreatDoor.Sg Go.Proofs.YtimmeclclilpdaaGreatDoor.Sq Go.Proofs.YtimmeclclilpdaaGreatDoor.Sz
open Go.Proofs.YtimmeclclilpdaaGreatDoor.Rg (RowG Stays)
open Go.Proofs.YtimmeclclilpdaaGreatDoor.Is (RowI toIntS_any eqIntS_same)
open Go.Proofs.YtimmeclclilpdaaGreatDoor.Gr12 (Gg gV szG_any toG_any eqG_same)

theorem infoK : (Tryz.prog.info? 37).map (fun i => (i.zero, i.size, i.bytes)) = some (some (.agg #[.int .i64 0, .slice none 0 0, .slice none 0 0, .slice none 0 0]), 4, 80) := by kernel_rfl
theorem made_noS (n : Nat) : NoS (madeCells (Value.agg #[.int .i64 0, .slice none 0 0, .slice none 0 0, .slice none 0 0]).cells n) := fun j s e => by
  have : ∀ (x : Value), (madeCells (Value.agg #[.int .i64 0, .slice none 0 0, .slice none 0 0, .slice none 0 0]).cells n)[j]? = some x → x = .int .i64 0 ∨ x = .slice none 0 0 := fun x hx => by
    unfold madeCells Value.cells at hx
    simp at hx
    obtain ⟨q, _, hx⟩ := hx
    rw [← hx]
    rcases (by omega : q % 4 = 0 ∨ q % 4 = 1 ∨ q % 4 = 2 ∨ q % 4 = 3) with h | h | h | h <;> simp [h]
  rcases this _ e with h | h <;> cases h
set_option maxRecDepth 100000 in
set_option maxHeartbeats 1600000 in
theorem toS_any (v : Value) (xs : List Ks) (w : World) (h : Row w v xs) (hl : xs.length ≤ 1048576) (hm : ∀ x ∈ xs, Tz 1048576 x) :
    Calls Tryz.prog 56 #[v] w fun e w' => ∃ v', e = .returned v' ∧ RowF w.heap.size w' v' xs ∧ Below w.heap.size w w' := by
  have HR : Hid (Row w v xs) := h
  have HM : Hid (∀ x ∈ xs, Tz 1048576 x) := hm
  obtain ⟨a, cap, rfl⟩ := RowG.slice h
  clear h hm
  obtain ⟨i0, hi, hz0, hz1, hz2⟩ := info_parts infoK
  have hmk := run_make (P := Tryz.prog) w 29 37 i0 (.agg #[.int .i64 0, .slice none 0 0, .slice none 0 0, .slice none 0 0]) Tryz.underlying29 hi hz0 .i64 .i64 (xs.length : Int) (xs.length : Int) (by omega) (by omega) (by rw [hz2]; omega) (by omega)
  have hA0 : Cp w.heap.size (w.alloc (.cells (madeCells (Value.agg #[.int .i64 0, .slice none 0 0, .slice none 0 0, .slice none 0 0]).cells ((xs.length : Int).toNat * i0.size)) 37)) (madeCells (Value.agg #[.int .i64 0, .slice none 0 0, .slice none 0 0, .slice none 0 0]).cells ((xs.length : Int).toNat * i0.size)) xs 0 := ⟨by rw [hz1]; simp [madeCells, Value.cells], made_noS _, fun j x hj => absurd hj (by omega)⟩
  generalize madeCells (Value.agg #[.int .i64 0, .slice none 0 0, .slice none 0 0, .slice none 0 0]).cells ((xs.length : Int).toNat * i0.size) = A0 at hmk hA0
  rw [Int.toNat_natCast] at hmk
  have HA0 : Hid (Cp w.heap.size (w.alloc (.cells A0 37)) A0 xs 0) := hA0
  clear hA0
  go_enter Tryz.func56, Tryz.ntmps56
  go_wp2_with fail
  clear hmk
  go_loopw [4] (fun i wr => ∃ k : Nat, ∃ A : Array Value, k ≤ xs.length ∧ i = .int .i64 k ∧ Hid (wr.heap[w.heap.size]? = some (.cells A 37 (0, 0)) ∧ Cp w.heap.size wr A xs k ∧ Below w.heap.size w wr)) (fun i _ => xs.length - (intOf i).toNat)
  case atStart => exact ⟨0, A0, by omega, rfl, ⟨heap_alloc_new w _, HA0.out, bel_new _ _⟩⟩
  case round =>
    obtain ⟨k, A, hk, rfl, HI⟩ := hrel
    by_cases hlt : k < xs.length
    · obtain ⟨x, hx⟩ := Rg.get_at hlt
      obtain ⟨b, off, rfl, hbl, va, vb, vc, c0, c1, c2, c3, r1, r2, r3⟩ := RowG.at (HR.out.below HI.out.2.2) rfl hx
      have HK : Hid (xs[k]? = some x) := hx
      have hmx := HM.out _ (Rg.mem_at hx)
      have HT := toK_any x.i va vb vc x.a x.b x.c wr r1 r2 r3 hmx.1.1 hmx.1.2.1 hmx.1.2.2
      obtain ⟨a1, k1, rfl, _⟩ := r1
      obtain ⟨a2, k2, rfl, _⟩ := r2
      obtain ⟨a3, k3, rfl, _⟩ := r3
      clear hx hmx
      have hI : (k : Int) < (xs.length : Int) := by omega
      go_wp2_with fail
      refine HT.mono ?_
      rintro e w1 ⟨ua, ub, uc, rfl, t1, t2, t3, ⟨m1, m2, m3⟩, b1⟩
      have hle : w.heap.size ≤ wr.heap.size := HI.out.2.2.size
      have G1 : Hid (w1.heap[w.heap.size]? = some (.cells A 37 (0, 0))) := (b1.block _ (Array.getElem?_eq_some_iff.1 HI.out.1).1).trans HI.out.1
      have hsz : k * 4 + 3 < A.size := by rw [HI.out.2.1.1]; omega
      have B1 : Hid (Below w.heap.size w w1) := HI.out.2.2.trans (b1.mono HI.out.2.2.size)
      have P1 : Hid _ := Cp.put (HI.out.2.1.below b1) G1.out HK.out t1 t2 t3 (m1.mono hle) (m2.mono hle) (m3.mono hle)
      obtain ⟨e1, l1, rfl, _⟩ := t1
      obtain ⟨e2, l2, rfl, _⟩ := t2
      obtain ⟨e3, l3, rfl, _⟩ := t3
      obtain ⟨z0, f0⟩ := Rg.blk_cell G1.out (k * 4) (x := A[k * 4]'(by omega)) (Array.getElem?_eq_getElem _)
      obtain ⟨z1, f1⟩ := Rg.blk_cell G1.out (k * 4 + 1) (x := A[k * 4 + 1]'(by omega)) (Array.getElem?_eq_getElem _)
      obtain ⟨z2, f2⟩ := Rg.blk_cell G1.out (k * 4 + 2) (x := A[k * 4 + 2]'(by omega)) (Array.getElem?_eq_getElem _)
      obtain ⟨z3, f3⟩ := Rg.blk_cell G1.out (k * 4 + 3) (x := A[k * 4 + 3]'(by omega)) (Array.getElem?_eq_getElem _)
      have B2 : Hid (Below w.heap.size w ((((w1.setCell ⟨w.heap.size, k * 4, none⟩ (.int .i64 x.i)).setCell ⟨w.heap.size, k * 4 + 1, none⟩ (.slice e1 x.a.length l1)).setCell ⟨w.heap.size, k * 4 + 2, none⟩ (.slice e2 x.b.length l2)).setCell ⟨w.heap.size, k * 4 + 3, none⟩ (.slice e3 x.c.length l3))) := Below.setCell (Below.setCell (Below.setCell (Below.setCell B1.out (p := ⟨w.heap.size, _, none⟩) (Nat.le_refl _) _) (p := ⟨w.heap.size, _, none⟩) (Nat.le_refl _) _) (p := ⟨w.heap.size, _, none⟩) (Nat.le_refl _) _) (p := ⟨w.heap.size, _, none⟩) (Nat.le_refl _) _
      clear b1 HT c0 c1 c2 c3 hle m1 m2 m3
      go_wp2_with fail
      exact ⟨⟨k + 1, _, by omega, by go_num, P1.out.1, P1.out.2, B2.out⟩, by simp [intOf]; omega⟩
    · obtain rfl : k = xs.length := by omega
      go_wp2_with fail
      go_ret
      exact ⟨_, rfl, HI.out.2.1.row (Nat.le_refl _) HI.out.1, HI.out.2.2⟩
/-- A certificate as a value. -/
def crV (g : Gg) (vn vs : Value) : Value := .agg #[.string g.nm, .int .i64 g.hd, .int .i64 g.tk, .int .i64 g.ex, vn, vs]
set_option maxRecDepth 100000 in
set_option maxHeartbeats 1600000 in
theorem szInts_any (v : Value) (ns : List Int) (l : Nat) (w : World) (h : RowI w v ns) (hl : l ≤ 1048576) (hz : ns.length ≤ maxLen) :
    Calls Tryz.prog 54 #[v, .int .i64 l] w fun e w' => (∃ r : Int, e = .returned (.int .i64 r) ∧ (r = -1 ∨ ∃ q : Nat, r = q ∧ q ≤ l ∧ ns.length ≤ 1048576)) ∧ w = w' := by
  unfold maxLen at hz
  obtain ⟨a, cap, rfl, _⟩ := h
  by_cases hb : (l : Int) < (ns.length : Int)
  · have hb' : (l : Int) - (ns.length : Int) < 0 := by omega
    go_enter Tryz.func54, Tryz.ntmps54
    go_wp2_with fail
    go_ret
    exact ⟨⟨_, rfl, .inl rfl⟩, rfl⟩
  · have hb' : ¬ (l : Int) - (ns.length : Int) < 0 := by omega
    go_enter Tryz.func54, Tryz.ntmps54
    go_wp2_with fail
    go_ret
    exact ⟨⟨_, rfl, .inr ⟨l - ns.length, by omega, by omega, by omega⟩⟩, rfl⟩
set_option maxRecDepth 100000 in
set_option maxHeartbeats 1600000 in
theorem szC_any (g : Gg) (vn vs : Value) (ns : List Int) (ks : List Ks) (w : World) (hn : RowI w vn ns) (hk : Row w vs ks) (zg : g.nm.size ≤ maxLen) (zn : ns.length ≤ maxLen) (zk : ks.length ≤ maxLen) (hm : ∀ x ∈ ks, Tz maxLen x) :
    Calls Tryz.prog 25 #[crV g vn vs, .int .i64 (1048576 : Nat)] w fun e w' => (∃ r : Int, e = .returned (.int .i64 r) ∧ (¬ r < 0 → ns.length ≤ 1048576 ∧ ks.length ≤ 1048576 ∧ ∀ x ∈ ks, Tz 1048576 x)) ∧ Below w.heap.size w w' := by
  have HRN : Hid (∀ W, Below w.heap.size w W → RowI W vn ns) := fun W hW => hn.below hW
  have HRK : Hid (∀ W, Below w.heap.size w W → Row W vs ks) := fun W hW => hk.below hW
  have HZ : Hid (g.nm.size ≤ maxLen ∧ ns.length ≤ maxLen ∧ ks.length ≤ maxLen ∧ ∀ x ∈ ks, Tz maxLen x) := ⟨zg, zn, zk, hm⟩
  obtain ⟨an, kn, rfl, _⟩ := hn
  obtain ⟨ak, kk, rfl⟩ := RowG.slice hk
  clear hk zg zn zk hm
  have HX : Hid (∀ W, Below (w.alloc (.cells #[.string g.nm, .int .i64 g.hd, .int .i64 g.tk, .int .i64 g.ex, .slice an ns.length kn, .slice ak ks.length kk] 56)).heap.size (w.alloc (.cells #[.string g.nm, .int .i64 g.hd, .int .i64 g.tk, .int .i64 g.ex, .slice an ns.length kn, .slice ak ks.length kk] 56)) W → (W.cell? ⟨w.heap.size, 0, none⟩ = some (.string g.nm) ∧ W.cell? ⟨w.heap.size, 1, none⟩ = some (.int .i64 g.hd) ∧ W.cell? ⟨w.heap.size, 2, none⟩ = some (.int .i64 g.tk) ∧ W.cell? ⟨w.heap.size, 3, none⟩ = some (.int .i64 g.ex) ∧ W.cell? ⟨w.heap.size, 4, none⟩ = some (.slice an ns.length kn) ∧ W.cell? ⟨w.heap.size, 5, none⟩ = some (.slice ak ks.length kk)) ∧ Below w.heap.size w W) := fun W hW => by
    have h1 := (hW.block w.heap.size (by simp)).trans (heap_alloc_new w _)
    exact ⟨⟨by simp [World.cell?, h1], by simp [World.cell?, h1], by simp [World.cell?, h1], by simp [World.cell?, h1], by simp [World.cell?, h1], by simp [World.cell?, h1]⟩, (bel_new w _).trans (hW.mono (by simp))⟩
  have HSG : Hid (∀ W, Calls Tryz.prog 16 #[.agg #[.string g.nm, .int .i64 g.hd, .int .i64 g.tk, .int .i64 g.ex], .int .i64 (1048576 : Nat)] W fun e w' => (∃ r : Int, e = .returned (.int .i64 r) ∧ (r = -1 ∨ ∃ q : Nat, r = q ∧ q ≤ 1048576 ∧ g.nm.size ≤ 1048576)) ∧ Below W.heap.size W w') := fun W => szG_any g 1048576 W (by decide) HZ.out.1
  unfold crV
  go_enter Tryz.func25, Tryz.ntmps25
  go_upto_region 1 with fail
  generalize w.alloc (.cells #[.string g.nm, .int .i64 g.hd, .int .i64 g.tk, .int .i64 g.ex, .slice an ns.length kn, .slice ak ks.length kk] 56) = wb at HX ⊢
  obtain ⟨⟨c0, c1, c2, c3, c4, c5⟩, g0⟩ := HX.out wb (Below.refl _ _)
  go_wp2_with fail
  refine (HSG.out _).mono ?_
  rintro e w1 ⟨⟨r, rfl, hr⟩, b1⟩
  have B1 : Hid (Below wb.heap.size wb w1) := b1
  clear b1 c0 c1 c2 c3 c4 c5 g0
  rcases hr with rfl | ⟨q, rfl, hq, _⟩
  · have G1 : Hid (Below w.heap.size w w1) := (HX.out _ B1.out).2
    clear HX
    go_wp2_with fail
    go_ret
    exact ⟨⟨-1, rfl, fun h => absurd h (by decide)⟩, G1.out⟩
  have hq0 : ¬ (q : Int) < 0 := by omega
  obtain ⟨⟨c0, c1, c2, c3, c4, c5⟩, g1⟩ := HX.out w1 B1.out
  have HSN := szInts_any _ ns q w1 (HRN.out _ g1) hq HZ.out.2.1
  clear g1
  go_wp2_with fail
  refine HSN.mono ?_
  rintro e w2 ⟨⟨r, rfl, hr⟩, rfl⟩
  clear HSN c0 c1 c2 c3 c4 c5 hq0
  rcases hr with rfl | ⟨q2, rfl, hq2, hnl⟩
  · have G1 : Hid (Below w.heap.size w w1) := (HX.out _ B1.out).2
    clear HX
    go_wp2_with fail
    go_ret
    exact ⟨⟨-1, rfl, fun h => absurd h (by decide)⟩, G1.out⟩
  have hq0 : ¬ (q2 : Int) < 0 := by omega
  obtain ⟨⟨c0, c1, c2, c3, c4, c5⟩, g1⟩ := HX.out w1 B1.out
  have HSK := szS_any _ ks (q2 : Int) w1 (HRK.out _ g1) HZ.out.2.2.2 HZ.out.2.2.1 (by omega) (by omega)
  have HNL : Hid (ns.length ≤ 1048576) := hnl
  clear g1 hnl
  go_wp2_with fail
  refine HSK.mono ?_
  rintro e w3 ⟨⟨r, rfl, hr⟩, b3⟩
  have G3 : Hid (Below w.heap.size w w3) := (HX.out _ (B1.out.trans (b3.mono B1.out.size))).2
  have HRR : Hid (¬ r < 0 → ks.length ≤ 1048576 ∧ ∀ x ∈ ks, Tz 1048576 x) := fun h => hr (by omega)
  clear HSK c0 c1 c2 c3 c4 c5 hq0 b3 hr HX
  by_cases hneg : r < 0
  · go_wp2_with fail
    go_ret
    exact ⟨⟨-1, rfl, fun h => absurd h (by decide)⟩, G3.out⟩
  · go_wp2_with fail
    go_ret
    exact ⟨⟨r, rfl, fun _ => ⟨HNL.out, HRR.out hneg⟩⟩, G3.out⟩
end Go.Proofs.YtimmeclclilpdaaGreatDoor.Kc

/- Certificates of grants: copied and compared. -/
namespace Go.Proofs.YtimmeclclilpdaaGreatDoor.Kc
open Go.RowKit Go.Proofs.YtimmeclclilpdaaGreatDoor.Sl Go.Proofs.YtimmeclclilpdaaGreatDoor.By Go.Proofs.YtimmeclclilpdaaGreatDoor.Ap Go.Proofs.YtimmeclclilpdaaGreatDoor.Tx Go.Proofs.YtimmeclclilpdaaGreatDoor.Mk Go.Proofs.YtimmeclclilpdaaGreatDoor.Sg Go.Proofs.YtimmeclclilpdaaGreatDoor.Sq Go.Proofs.YtimmeclclilpdaaGreatDoor.Sz
open Go.Proofs.YtimmeclclilpdaaGreatDoor.Rg (RowG Stays)
open Go.Proofs.YtimmeclclilpdaaGreatDoor.Is (RowI eqIntS_same)
open Go.Proofs.YtimmeclclilpdaaGreatDoor.Gr12 (Gg gV szG_any toG_any eqG_same)

/-- What is known of a certificate's copy that is being made. -/
structure Cq (w W : World) (A X : Array Value) : Prop where
  bx : W.heap[w.heap.size]? = some (.cells A 56 (0, 0))
  rs : W.heap[w.heap.size + 1]? = some (.cells #[.string ByteArray.empty, .int .i64 0, .int .i64 0, .int .i64 0, .slice none 0 0, .slice none 0 0] 31 (0, 0))
  ou : W.heap[w.heap.size + 1 + 1]? = some (.cells X 31 (0, 0))
  be : Below w.heap.size w W
  sz : w.heap.size + 1 + 1 + 1 ≤ W.heap.size
theorem Cq.below {w W W' : World} {A X : Array Value} (h : Cq w W A X) (b : Below W.heap.size W W') : Cq w W' A X := by
  have hs := h.sz
  have hs2 := b.size
  exact ⟨(b.block _ (by omega)).trans h.bx, (b.block _ (by omega)).trans h.rs, (b.block _ (by omega)).trans h.ou, h.be.trans (b.mono h.be.size), by omega⟩
theorem Cq.set {w W : World} {A X : Array Value} (h : Cq w W A X) (j : Nat) (y : Value) : Cq w (W.setCell ⟨w.heap.size + 1 + 1, j, none⟩ y) A (X.setIfInBounds j y) :=
  ⟨(Rg.blk_far (by omega) j y).trans h.bx, (Rg.blk_far (by omega) j y).trans h.rs, Rg.blk_set h.ou j y, Below.setCell h.be (p := ⟨w.heap.size + 1 + 1, j, none⟩) (by simp <;> omega) y, by simpa using h.sz⟩
theorem startC (w : World) (A : Array Value) : Cq w (((w.alloc (.cells A 56)).alloc (.cells #[.string ByteArray.empty, .int .i64 0, .int .i64 0, .int .i64 0, .slice none 0 0, .slice none 0 0] 31)).alloc (.cells #[.string ByteArray.empty, .int .i64 0, .int .i64 0, .int .i64 0, .slice none 0 0, .slice none 0 0] 31)) A #[.string ByteArray.empty, .int .i64 0, .int .i64 0, .int .i64 0, .slice none 0 0, .slice none 0 0] := by
  have s1 := Rg.size_new w (.cells A 56)
  have s2 := Rg.size_new (w.alloc (.cells A 56)) (.cells #[.string ByteArray.empty, .int .i64 0, .int .i64 0, .int .i64 0, .slice none 0 0, .slice none 0 0] 31)
  have e2 := Rg.blk_new (w.alloc (.cells A 56)) #[.string ByteArray.empty, .int .i64 0, .int .i64 0, .int .i64 0, .slice none 0 0, .slice none 0 0] 31
  have e3 := Rg.blk_new ((w.alloc (.cells A 56)).alloc (.cells #[.string ByteArray.empty, .int .i64 0, .int .i64 0, .int .i64 0, .slice none 0 0, .slice none 0 0] 31)) #[.string ByteArray.empty, .int .i64 0, .int .i64 0, .int .i64 0, .slice none 0 0, .slice none 0 0] 31
  rw [s1] at e2
  rw [s2, s1] at e3
  have h1 := bel_new w (.cells A 56)
  have h2 := h1.alloc h1.size (.cells #[.string ByteArray.empty, .int .i64 0, .int .i64 0, .int .i64 0, .slice none 0 0, .slice none 0 0] 31)
  exact ⟨(Below.heap_alloc _ _ _ (by omega)).trans ((Below.heap_alloc _ _ _ (by omega)).trans (Rg.blk_new _ _ _)), (Below.heap_alloc _ _ _ (by omega)).trans e2, e3, h2.alloc h2.size _, by rw [Rg.size_new, s2, s1]; exact Nat.le_refl _⟩
theorem RowF.mono {B B' : Nat} {w : World} {v : Value} {xs : List Ks} (h : RowF B w v xs) (hb : B' ≤ B) : RowF B' w v xs := by
  obtain ⟨hf, a, cap, rfl, h⟩ := h
  refine ⟨hf.mono hb, a, cap, rfl, ?_⟩
  rcases h with h | ⟨b, off, rfl, hc, hlt, h⟩
  · exact .inl h
  · refine .inr ⟨b, off, rfl, hc, hlt, fun i y hi => ?_⟩
    obtain ⟨va, vb, vc, h0, h1, h3, h4, r1, r2, r3, f1, f2, f3⟩ := h i y hi
    exact ⟨va, vb, vc, h0, h1, h3, h4, r1, r2, r3, f1.mono hb, f2.mono hb, f3.mono hb⟩
set_option maxRecDepth 100000 in
set_option maxHeartbeats 1600000 in
theorem toC_any (g : Gg) (vn vs : Value) (ns : List Int) (ks : List Ks) (w : World) (hn : RowI w vn ns) (hk : Row w vs ks) (zn : ns.length ≤ 1048576) (zk : ks.length ≤ 1048576) (hm : ∀ x ∈ ks, Tz 1048576 x) :
    Calls Tryz.prog 26 #[crV g vn vs] w fun e w' => ∃ un us, e = .returned (crV g un us) ∧ RowI w' un ns ∧ Row w' us ks ∧ Below w.heap.size w w' := by
  have HRN : Hid (∀ W, Below w.heap.size w W → RowI W vn ns) := fun W hW => hn.below hW
  have HRK : Hid (∀ W, Below w.heap.size w W → Row W vs ks) := fun W hW => hk.below hW
  have HZ : Hid (ns.length ≤ 1048576 ∧ ks.length ≤ 1048576 ∧ ∀ x ∈ ks, Tz 1048576 x) := ⟨zn, zk, hm⟩
  obtain ⟨an, kn, rfl, _⟩ := hn
  obtain ⟨ak, kk, rfl⟩ := RowG.slice hk
  clear hk zn zk hm
  have S0 : Hid _ := startC w #[.string g.nm, .int .i64 g.hd, .int .i64 g.tk, .int .i64 g.ex, .slice an ns.length kn, .slice ak ks.length kk]
  have HG : Hid (∀ W, Calls Tryz.prog 18 #[.agg #[.string g.nm, .int .i64 g.hd, .int .i64 g.tk, .int .i64 g.ex]] W fun e w' => e = .returned (.agg #[.string g.nm, .int .i64 g.hd, .int .i64 g.tk, .int .i64 g.ex]) ∧ Below W.heap.size W w') := fun W => toG_any g W
  unfold crV
  go_enter Tryz.func26, Tryz.ntmps26
  go_wp2_with fail
  refine (HG.out _).mono ?_
  rintro e w1 ⟨rfl, b1⟩
  have C1 := S0.out.below b1
  obtain ⟨y0, fy0⟩ := Rg.blk_cell C1.ou 0 (x := .string ByteArray.empty) rfl
  obtain ⟨y1, fy1⟩ := Rg.blk_cell C1.ou 1 (x := .int .i64 0) rfl
  obtain ⟨y2, fy2⟩ := Rg.blk_cell C1.ou 2 (x := .int .i64 0) rfl
  obtain ⟨y3, fy3⟩ := Rg.blk_cell C1.ou 3 (x := .int .i64 0) rfl
  have D1 : Hid (Cq w ((((w1.setCell ⟨w.heap.size + 1 + 1, 0, none⟩ (.string g.nm)).setCell ⟨w.heap.size + 1 + 1, 1, none⟩ (.int .i64 g.hd)).setCell ⟨w.heap.size + 1 + 1, 2, none⟩ (.int .i64 g.tk)).setCell ⟨w.heap.size + 1 + 1, 3, none⟩ (.int .i64 g.ex)) #[.string g.nm, .int .i64 g.hd, .int .i64 g.tk, .int .i64 g.ex, .slice an ns.length kn, .slice ak ks.length kk] #[.string g.nm, .int .i64 g.hd, .int .i64 g.tk, .int .i64 g.ex, .slice none 0 0, .slice none 0 0]) := (((C1.set 0 (.string g.nm)).set 1 (.int .i64 g.hd)).set 2 (.int .i64 g.tk)).set 3 (.int .i64 g.ex)
  have p4 := (Rg.blk_cell D1.out.bx 4 (x := .slice an ns.length kn) rfl).1
  clear b1 C1
  go_upto_region 3 with fail
  generalize ((((w1.setCell ⟨w.heap.size + 1 + 1, 0, none⟩ (.string g.nm)).setCell ⟨w.heap.size + 1 + 1, 1, none⟩ (.int .i64 g.hd)).setCell ⟨w.heap.size + 1 + 1, 2, none⟩ (.int .i64 g.tk)).setCell ⟨w.heap.size + 1 + 1, 3, none⟩ (.int .i64 g.ex)) = w2 at D1 p4 ⊢
  clear y0 y1 y2 y3 fy0 fy1 fy2 fy3
  go_wp2_with fail
  refine (toI_any _ ns _ (HRN.out _ D1.out.be) HZ.out.1).mono ?_
  rintro e w3 ⟨v2, rfl, r2, m2, b2⟩
  have m2' : From (w.heap.size + 1 + 1 + 1) v2 := m2.mono D1.out.sz
  have RN : Hid (RowI w3 v2 ns ∧ From (w.heap.size + 1 + 1 + 1) v2) := ⟨r2, m2'⟩
  obtain ⟨bn, ln, rfl, _⟩ := r2
  have C2 := D1.out.below b2
  obtain ⟨f1, f2⟩ := Rg.blk_cell C2.ou 4 (x := .slice none 0 0) rfl
  have D2 : Hid (Cq w (w3.setCell ⟨w.heap.size + 1 + 1, 4, none⟩ (.slice bn ns.length ln)) #[.string g.nm, .int .i64 g.hd, .int .i64 g.tk, .int .i64 g.ex, .slice an ns.length kn, .slice ak ks.length kk] #[.string g.nm, .int .i64 g.hd, .int .i64 g.tk, .int .i64 g.ex, .slice bn ns.length ln, .slice none 0 0]) := C2.set 4 (.slice bn ns.length ln)
  have R2 : Hid (RowI (w3.setCell ⟨w.heap.size + 1 + 1, 4, none⟩ (.slice bn ns.length ln)) (.slice bn ns.length ln) ns ∧ From (w.heap.size + 1 + 1 + 1) (.slice bn ns.length ln)) := ⟨RowI_low RN.out.1 RN.out.2 (by omega), RN.out.2⟩
  have p5 := (Rg.blk_cell D2.out.bx 5 (x := .slice ak ks.length kk) rfl).1
  clear b2 C2 p4 m2 m2' RN
  go_upto_region 4 with fail
  generalize (w3.setCell ⟨w.heap.size + 1 + 1, 4, none⟩ (.slice bn ns.length ln)) = w4 at D2 R2 p5 ⊢
  clear f1 f2
  go_wp2_with fail
  refine (toS_any _ ks _ (HRK.out _ D2.out.be) HZ.out.2.1 HZ.out.2.2).mono ?_
  rintro e w5 ⟨v3, rfl, r3, b3⟩
  have RK : Hid (RowF (w.heap.size + 1 + 1 + 1) w5 v3 ks) := r3.mono D2.out.sz
  obtain ⟨bk, lk, rfl⟩ := RowG.slice r3.2
  have C3 := D2.out.below b3
  obtain ⟨f1, f2⟩ := Rg.blk_cell C3.ou 5 (x := .slice none 0 0) rfl
  have D3 : Hid (Cq w (w5.setCell ⟨w.heap.size + 1 + 1, 5, none⟩ (.slice bk ks.length lk)) #[.string g.nm, .int .i64 g.hd, .int .i64 g.tk, .int .i64 g.ex, .slice an ns.length kn, .slice ak ks.length kk] #[.string g.nm, .int .i64 g.hd, .int .i64 g.tk, .int .i64 g.ex, .slice bn ns.length ln, .slice bk ks.length lk]) := C3.set 5 (.slice bk ks.length lk)
  have R3 : Hid (RowI (w5.setCell ⟨w.heap.size + 1 + 1, 5, none⟩ (.slice bk ks.length lk)) (.slice bn ns.length ln) ns ∧ From (w.heap.size + 1 + 1 + 1) (.slice bn ns.length ln) ∧ RowF (w.heap.size + 1 + 1 + 1) (w5.setCell ⟨w.heap.size + 1 + 1, 5, none⟩ (.slice bk ks.length lk)) (.slice bk ks.length lk) ks) := ⟨RowI_low (R2.out.1.below b3) R2.out.2 (by omega), R2.out.2, RK.out.set (by omega)⟩
  clear b3 C3 p5 r3 RK R2
  go_upto_region 5 with fail
  generalize (w5.setCell ⟨w.heap.size + 1 + 1, 5, none⟩ (.slice bk ks.length lk)) = w6 at D3 R3 ⊢
  clear f1 f2
  obtain ⟨k0, _fk0⟩ := Rg.blk_cell D3.out.ou 0 (x := .string g.nm) rfl
  obtain ⟨k1, _fk1⟩ := Rg.blk_cell D3.out.ou 1 (x := .int .i64 g.hd) rfl
  obtain ⟨k2, _fk2⟩ := Rg.blk_cell D3.out.ou 2 (x := .int .i64 g.tk) rfl
  obtain ⟨k3, _fk3⟩ := Rg.blk_cell D3.out.ou 3 (x := .int .i64 g.ex) rfl
  obtain ⟨k4, _fk4⟩ := Rg.blk_cell D3.out.ou 4 (x := .slice bn ns.length ln) rfl
  obtain ⟨k5, _fk5⟩ := Rg.blk_cell D3.out.ou 5 (x := .slice bk ks.length lk) rfl
  obtain ⟨z0, fz0⟩ := Rg.blk_cell D3.out.rs 0 (x := .string ByteArray.empty) rfl
  obtain ⟨z1, fz1⟩ := Rg.blk_cell D3.out.rs 1 (x := .int .i64 0) rfl
  obtain ⟨z2, fz2⟩ := Rg.blk_cell D3.out.rs 2 (x := .int .i64 0) rfl
  obtain ⟨z3, fz3⟩ := Rg.blk_cell D3.out.rs 3 (x := .int .i64 0) rfl
  obtain ⟨z4, fz4⟩ := Rg.blk_cell D3.out.rs 4 (x := .slice none 0 0) rfl
  obtain ⟨z5, fz5⟩ := Rg.blk_cell D3.out.rs 5 (x := .slice none 0 0) rfl
  have AF : ((((((w6.setCell ⟨w.heap.size + 1, 0, none⟩ (.string g.nm)).setCell ⟨w.heap.size + 1, 1, none⟩ (.int .i64 g.hd)).setCell ⟨w.heap.size + 1, 2, none⟩ (.int .i64 g.tk)).setCell ⟨w.heap.size + 1, 3, none⟩ (.int .i64 g.ex)).setCell ⟨w.heap.size + 1, 4, none⟩ (.slice bn ns.length ln)).setCell ⟨w.heap.size + 1, 5, none⟩ (.slice bk ks.length lk)).heap[w.heap.size + 1]? = some (.cells #[.string g.nm, .int .i64 g.hd, .int .i64 g.tk, .int .i64 g.ex, .slice bn ns.length ln, .slice bk ks.length lk] 31 (0, 0)) := (Rg.blk_set (Rg.blk_set (Rg.blk_set (Rg.blk_set (Rg.blk_set (Rg.blk_set D3.out.rs 0 (.string g.nm)) 1 (.int .i64 g.hd)) 2 (.int .i64 g.tk)) 3 (.int .i64 g.ex)) 4 (.slice bn ns.length ln)) 5 (.slice bk ks.length lk))
  have GF : Below w.heap.size w ((((((w6.setCell ⟨w.heap.size + 1, 0, none⟩ (.string g.nm)).setCell ⟨w.heap.size + 1, 1, none⟩ (.int .i64 g.hd)).setCell ⟨w.heap.size + 1, 2, none⟩ (.int .i64 g.tk)).setCell ⟨w.heap.size + 1, 3, none⟩ (.int .i64 g.ex)).setCell ⟨w.heap.size + 1, 4, none⟩ (.slice bn ns.length ln)).setCell ⟨w.heap.size + 1, 5, none⟩ (.slice bk ks.length lk)) := (Below.setCell (Below.setCell (Below.setCell (Below.setCell (Below.setCell (Below.setCell D3.out.be (p := ⟨w.heap.size + 1, 0, none⟩) (by simp <;> omega) (.string g.nm)) (p := ⟨w.heap.size + 1, 1, none⟩) (by simp <;> omega) (.int .i64 g.hd)) (p := ⟨w.heap.size + 1, 2, none⟩) (by simp <;> omega) (.int .i64 g.tk)) (p := ⟨w.heap.size + 1, 3, none⟩) (by simp <;> omega) (.int .i64 g.ex)) (p := ⟨w.heap.size + 1, 4, none⟩) (by simp <;> omega) (.slice bn ns.length ln)) (p := ⟨w.heap.size + 1, 5, none⟩) (by simp <;> omega) (.slice bk ks.length lk))
  have RF : RowI ((((((w6.setCell ⟨w.heap.size + 1, 0, none⟩ (.string g.nm)).setCell ⟨w.heap.size + 1, 1, none⟩ (.int .i64 g.hd)).setCell ⟨w.heap.size + 1, 2, none⟩ (.int .i64 g.tk)).setCell ⟨w.heap.size + 1, 3, none⟩ (.int .i64 g.ex)).setCell ⟨w.heap.size + 1, 4, none⟩ (.slice bn ns.length ln)).setCell ⟨w.heap.size + 1, 5, none⟩ (.slice bk ks.length lk)) (.slice bn ns.length ln) ns := (RowI_low (j := 5) (x := .slice bk ks.length lk) (RowI_low (j := 4) (x := .slice bn ns.length ln) (RowI_low (j := 3) (x := .int .i64 g.ex) (RowI_low (j := 2) (x := .int .i64 g.tk) (RowI_low (j := 1) (x := .int .i64 g.hd) (RowI_low (j := 0) (x := .string g.nm) R3.out.1 R3.out.2.1 (by omega)) R3.out.2.1 (by omega)) R3.out.2.1 (by omega)) R3.out.2.1 (by omega)) R3.out.2.1 (by omega)) R3.out.2.1 (by omega))
  have KF : Row ((((((w6.setCell ⟨w.heap.size + 1, 0, none⟩ (.string g.nm)).setCell ⟨w.heap.size + 1, 1, none⟩ (.int .i64 g.hd)).setCell ⟨w.heap.size + 1, 2, none⟩ (.int .i64 g.tk)).setCell ⟨w.heap.size + 1, 3, none⟩ (.int .i64 g.ex)).setCell ⟨w.heap.size + 1, 4, none⟩ (.slice bn ns.length ln)).setCell ⟨w.heap.size + 1, 5, none⟩ (.slice bk ks.length lk)) (.slice bk ks.length lk) ks := RowF.row ((RowF.set (j := 5) (x := .slice bk ks.length lk) (RowF.set (j := 4) (x := .slice bn ns.length ln) (RowF.set (j := 3) (x := .int .i64 g.ex) (RowF.set (j := 2) (x := .int .i64 g.tk) (RowF.set (j := 1) (x := .int .i64 g.hd) (RowF.set (j := 0) (x := .string g.nm) R3.out.2.2 (by omega)) (by omega)) (by omega)) (by omega)) (by omega)) (by omega)))
  go_wp2_with fail
  generalize ((((((w6.setCell ⟨w.heap.size + 1, 0, none⟩ (.string g.nm)).setCell ⟨w.heap.size + 1, 1, none⟩ (.int .i64 g.hd)).setCell ⟨w.heap.size + 1, 2, none⟩ (.int .i64 g.tk)).setCell ⟨w.heap.size + 1, 3, none⟩ (.int .i64 g.ex)).setCell ⟨w.heap.size + 1, 4, none⟩ (.slice bn ns.length ln)).setCell ⟨w.heap.size + 1, 5, none⟩ (.slice bk ks.length lk)) = wf at AF GF RF KF ⊢
  have d0 := (Rg.blk_cell AF 0 (x := .string g.nm) rfl).1
  have d1 := (Rg.blk_cell AF 1 (x := .int .i64 g.hd) rfl).1
  have d2 := (Rg.blk_cell AF 2 (x := .int .i64 g.tk) rfl).1
  have d3 := (Rg.blk_cell AF 3 (x := .int .i64 g.ex) rfl).1
  have d4 := (Rg.blk_cell AF 4 (x := .slice bn ns.length ln) rfl).1
  have d5 := (Rg.blk_cell AF 5 (x := .slice bk ks.length lk) rfl).1
  refine bodyPost_ret (v := .agg #[.string g.nm, .int .i64 g.hd, .int .i64 g.tk, .int .i64 g.ex, .slice bn ns.length ln, .slice bk ks.length lk]) (by simp [results, Tryz.results26, go_sem, d0, d1, d2, d3, d4, d5]) rfl ⟨_, _, rfl, RF, KF, GF⟩
set_option maxRecDepth 100000 in
set_option maxHeartbeats 1600000 in
theorem eqC_same (g : Gg) (va vb ua ub : Value) (ns : List Int) (ks : List Ks) (w : World) (ra : RowI w va ns) (rb : Row w vb ks) (ta : RowI w ua ns) (tb : Row w ub ks) (zn : ns.length ≤ 1048576) (zk : ks.length ≤ 1048576) (hm : ∀ x ∈ ks, x.a.length ≤ 1048576 ∧ x.b.length ≤ 1048576 ∧ x.c.length ≤ 1048576) :
    Calls Tryz.prog 20 #[crV g va vb, crV g ua ub] w fun e w' => e = .returned (.bool true) ∧ Below w.heap.size w w' := by
  have HN : Hid (∀ W, Below w.heap.size w W → RowI W va ns ∧ RowI W ua ns) := fun W hW => ⟨ra.below hW, ta.below hW⟩
  have HK : Hid (∀ W, Below w.heap.size w W → Row W vb ks ∧ Row W ub ks) := fun W hW => ⟨rb.below hW, tb.below hW⟩
  have HZ : Hid (ns.length ≤ 1048576 ∧ ks.length ≤ 1048576 ∧ ∀ x ∈ ks, x.a.length ≤ 1048576 ∧ x.b.length ≤ 1048576 ∧ x.c.length ≤ 1048576) := ⟨zn, zk, hm⟩
  obtain ⟨a1, k1, rfl, _⟩ := ra
  obtain ⟨a2, k2, rfl⟩ := RowG.slice rb
  obtain ⟨b1, l1, rfl, _⟩ := ta
  obtain ⟨b2, l2, rfl⟩ := RowG.slice tb
  clear rb tb zn zk hm
  have HX : Hid (∀ W, Below ((w.alloc (.cells #[.string g.nm, .int .i64 g.hd, .int .i64 g.tk, .int .i64 g.ex, .slice a1 ns.length k1, .slice a2 ks.length k2] 31)).alloc (.cells #[.string g.nm, .int .i64 g.hd, .int .i64 g.tk, .int .i64 g.ex, .slice b1 ns.length l1, .slice b2 ks.length l2] 31)).heap.size ((w.alloc (.cells #[.string g.nm, .int .i64 g.hd, .int .i64 g.tk, .int .i64 g.ex, .slice a1 ns.length k1, .slice a2 ks.length k2] 31)).alloc (.cells #[.string g.nm, .int .i64 g.hd, .int .i64 g.tk, .int .i64 g.ex, .slice b1 ns.length l1, .slice b2 ks.length l2] 31)) W → ((W.cell? ⟨w.heap.size, 0, none⟩ = some (.string g.nm) ∧ W.cell? ⟨w.heap.size, 1, none⟩ = some (.int .i64 g.hd) ∧ W.cell? ⟨w.heap.size, 2, none⟩ = some (.int .i64 g.tk) ∧ W.cell? ⟨w.heap.size, 3, none⟩ = some (.int .i64 g.ex) ∧ W.cell? ⟨w.heap.size, 4, none⟩ = some (.slice a1 ns.length k1) ∧ W.cell? ⟨w.heap.size, 5, none⟩ = some (.slice a2 ks.length k2)) ∧ (W.cell? ⟨w.heap.size + 1, 0, none⟩ = some (.string g.nm) ∧ W.cell? ⟨w.heap.size + 1, 1, none⟩ = some (.int .i64 g.hd) ∧ W.cell? ⟨w.heap.size + 1, 2, none⟩ = some (.int .i64 g.tk) ∧ W.cell? ⟨w.heap.size + 1, 3, none⟩ = some (.int .i64 g.ex) ∧ W.cell? ⟨w.heap.size + 1, 4, none⟩ = some (.slice b1 ns.length l1) ∧ W.cell? ⟨w.heap.size + 1, 5, none⟩ = some (.slice b2 ks.length l2))) ∧ Below w.heap.size w W) := fun W hW => by
    have h1 := (hW.block w.heap.size (by simp <;> omega)).trans ((Below.heap_alloc _ _ _ (by simp)).trans (heap_alloc_new w _))
    have h2 : W.heap[w.heap.size + 1]? = some (.cells #[.string g.nm, .int .i64 g.hd, .int .i64 g.tk, .int .i64 g.ex, .slice b1 ns.length l1, .slice b2 ks.length l2] 31) := (hW.block (w.heap.size + 1) (by simp)).trans (by rw [← Rg.size_new w (.cells #[.string g.nm, .int .i64 g.hd, .int .i64 g.tk, .int .i64 g.ex, .slice a1 ns.length k1, .slice a2 ks.length k2] 31)]; exact heap_alloc_new (w.alloc (.cells #[.string g.nm, .int .i64 g.hd, .int .i64 g.tk, .int .i64 g.ex, .slice a1 ns.length k1, .slice a2 ks.length k2] 31)) (.cells #[.string g.nm, .int .i64 g.hd, .int .i64 g.tk, .int .i64 g.ex, .slice b1 ns.length l1, .slice b2 ks.length l2] 31))
    exact ⟨⟨⟨by simp only [World.cell?, h1]; rfl, by simp only [World.cell?, h1]; rfl, by simp only [World.cell?, h1]; rfl, by simp only [World.cell?, h1]; rfl, by simp only [World.cell?, h1]; rfl, by simp only [World.cell?, h1]; rfl⟩, ⟨by simp only [World.cell?, h2]; rfl, by simp only [World.cell?, h2]; rfl, by simp only [World.cell?, h2]; rfl, by simp only [World.cell?, h2]; rfl, by simp only [World.cell?, h2]; rfl, by simp only [World.cell?, h2]; rfl⟩⟩, ((bel_new w _).alloc (by simp) _).trans (hW.mono (by simp <;> omega))⟩
  have HG : Hid (∀ W, Calls Tryz.prog 49 #[.agg #[.string g.nm, .int .i64 g.hd, .int .i64 g.tk, .int .i64 g.ex], .agg #[.string g.nm, .int .i64 g.hd, .int .i64 g.tk, .int .i64 g.ex]] W fun e w' => e = .returned (.bool true) ∧ Below W.heap.size W w') := fun W => eqG_same g W
  unfold crV
  go_enter Tryz.func20, Tryz.ntmps20
  go_upto_region 1 with fail
  generalize ((w.alloc (.cells #[.string g.nm, .int .i64 g.hd, .int .i64 g.tk, .int .i64 g.ex, .slice a1 ns.length k1, .slice a2 ks.length k2] 31)).alloc (.cells #[.string g.nm, .int .i64 g.hd, .int .i64 g.tk, .int .i64 g.ex, .slice b1 ns.length l1, .slice b2 ks.length l2] 31)) = wb at HX ⊢
  obtain ⟨⟨⟨c0, c1, c2, c3, c4, c5⟩, ⟨d0, d1, d2, d3, d4, d5⟩⟩, g0⟩ := HX.out wb (Below.refl _ _)
  go_wp2_with fail
  refine (HG.out _).mono ?_
  rintro e w1 ⟨rfl, b1⟩
  have B1 : Hid (Below wb.heap.size wb w1) := b1
  clear b1 c0 c1 c2 c3 c4 c5 d0 d1 d2 d3 d4 d5 g0
  obtain ⟨⟨⟨c0, c1, c2, c3, c4, c5⟩, ⟨d0, d1, d2, d3, d4, d5⟩⟩, g1⟩ := HX.out w1 B1.out
  have E1 := eqIntS_same _ _ ns w1 (HN.out _ g1).1 (HN.out _ g1).2 HZ.out.1
  clear g1
  go_wp2_with fail
  refine E1.mono ?_
  rintro e w2 ⟨rfl, b2⟩
  have B2 : Hid (Below wb.heap.size wb w2) := B1.out.trans (b2.mono B1.out.size)
  clear b2 E1 B1 c0 c1 c2 c3 c4 c5 d0 d1 d2 d3 d4 d5
  obtain ⟨⟨⟨c0, c1, c2, c3, c4, c5⟩, ⟨d0, d1, d2, d3, d4, d5⟩⟩, g1⟩ := HX.out w2 B2.out
  have E2 := eqS_same _ _ ks w2 (HK.out _ g1).1 (HK.out _ g1).2 HZ.out.2.1 HZ.out.2.2
  clear g1
  go_wp2_with fail
  refine E2.mono ?_
  rintro e w3 ⟨rfl, b3⟩
  have G3 : Hid (Below w.heap.size w w3) := (HX.out _ (B2.out.trans (b3.mono B2.out.size))).2
  clear b3 E2 B2 HX c0 c1 c2 c3 c4 c5 d0 d1 d2 d3 d4 d5
  go_wp2_with fail
  go_ret
  exact ⟨rfl, G3.out⟩
end Go.Proofs.YtimmeclclilpdaaGreatDoor.Kc
