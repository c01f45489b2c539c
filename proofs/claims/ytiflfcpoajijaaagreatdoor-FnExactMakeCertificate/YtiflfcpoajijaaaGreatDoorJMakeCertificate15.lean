/- Texts put together: Cfa, Cfb, Cfc. -/
import Derived.Test.YtiflfcpoajijaaaGreatDoorJMakeCertificate14
import Derived.Test.YtiflfcpoajijaaaGreatDoorRg
import Derived.Test.YtiflfcpoajijaaaGreatDoorIs
import Derived.Test.YtiflfcpoajijaaaGreatDoorJMakeCertificate0
import Derived.Test.YtiflfcpoajijaaaGreatDoorOc
/- Signatures of keys in a slice: read, measured, copied, compared. -/
namespace Go.Proofs.YtiflfcpoajijaaaGreatDoor.Kc
open Go.RowKit Go.Proofs.YtiflfcpoajijaaaGreatDoor.Sl Go.Proofs.YtiflfcpoajijaaaGreatDoor.By Go.Proofs.YtiflfcpoajijaaaGreatDoor.Ap Go.Proofs.YtiflfcpoajijaaaGreatDoor.Tx Go.Proofs.YtiflfcpoajijaaaGreatDoor.Mk Go.Proofs.YtiflfcpoajijaaaGreatDoor.Sg Go.Proofs.YtiflfcpoajijaaaGreatDoor.Sq Go.Proofs.YtiflfcpoajijaaaGreatDoor.Sz
open Go.Proofs.YtiflfcpoajijaaaGreatDoor.Rg (RowG Stays)

/-- A signature: its key's index and its three lists of texts. -/
structure Ks where
  i : Int
  a : List ByteArray
  b : List ByteArray
  c : List ByteArray
instance : Inhabited Ks := ⟨⟨0, [], [], []⟩⟩
def E1 (w : World) (b o : Nat) (x : Ks) : Prop := ∃ va vb vc, w.cell? ⟨b, o, none⟩ = some (.int .i64 x.i) ∧ w.cell? ⟨b, o + 1, none⟩ = some va ∧ w.cell? ⟨b, o + 2, none⟩ = some vb ∧ w.cell? ⟨b, o + 3, none⟩ = some vc ∧ RowT w va x.a ∧ RowT w vb x.b ∧ RowT w vc x.c
theorem stays1 : Stays E1 := fun _ _ b _ _ hb hlt ⟨va, vb, vc, h0, h1, h2, h3, r1, r2, r3⟩ => ⟨va, vb, vc, (hb.cell (p := ⟨b, _, none⟩) hlt).trans h0, (hb.cell (p := ⟨b, _, none⟩) hlt).trans h1, (hb.cell (p := ⟨b, _, none⟩) hlt).trans h2, (hb.cell (p := ⟨b, _, none⟩) hlt).trans h3, r1.below hb, r2.below hb, r3.below hb⟩
def Row (w : World) (v : Value) (xs : List Ks) : Prop := RowG 4 E1 w v xs
theorem Row.below {w w' : World} {v : Value} {xs : List Ks} (h : Row w v xs) (hb : Below w.heap.size w w') : Row w' v xs := RowG.below stays1 h hb
/-- Its lists and texts are no longer than n. -/
def Tz (n : Nat) (x : Ks) : Prop := (x.a.length ≤ n ∧ x.b.length ≤ n ∧ x.c.length ≤ n) ∧ (∀ t ∈ x.a, t.size ≤ maxLen) ∧ (∀ t ∈ x.b, t.size ≤ maxLen) ∧ ∀ t ∈ x.c, t.size ≤ maxLen
set_option maxRecDepth 100000 in
set_option maxHeartbeats 1600000 in
theorem eqS_same (v u : Value) (xs : List Ks) (w : World) (h : Row w v xs) (g : Row w u xs) (hl : xs.length ≤ 1048576) (hm : ∀ x ∈ xs, x.a.length ≤ 1048576 ∧ x.b.length ≤ 1048576 ∧ x.c.length ≤ 1048576) :
    Calls Tryz.prog 47 #[v, u] w fun e w' => e = .returned (.bool true) ∧ Below w.heap.size w w' := by
  have HR : Hid (Row w v xs) := h
  have HG : Hid (Row w u xs) := g
  have HM : Hid (∀ x ∈ xs, x.a.length ≤ 1048576 ∧ x.b.length ≤ 1048576 ∧ x.c.length ≤ 1048576) := hm
  obtain ⟨a, cap, rfl⟩ := RowG.slice h
  obtain ⟨a', cap', rfl⟩ := RowG.slice g
  have hn : ((xs.length : Int) != (xs.length : Int)) = false := by simp
  clear h g hm
  go_enter Tryz.func47, Tryz.ntmps47
  go_wp2_with fail
  go_loopw [5] (fun i wr => ∃ k : Nat, k ≤ xs.length ∧ i = .int .i64 k ∧ Hid (Below w.heap.size w wr)) (fun i _ => xs.length - (intOf i).toNat)
  case atStart => exact ⟨0, by omega, rfl, Below.refl _ _⟩
  case round =>
    obtain ⟨k, hk, rfl, HB⟩ := hrel
    by_cases hlt : k < xs.length
    · obtain ⟨x, hx⟩ := Rg.get_at hlt
      obtain ⟨b, off, rfl, hbl, va, vb, vc, c0, c1, c2, c3, r1, r2, r3⟩ := RowG.at (HR.out.below HB.out) rfl hx
      obtain ⟨b', off', rfl, hbl', va', vb', vc', d0, d1, d2, d3, t1, t2, t3⟩ := RowG.at (HG.out.below HB.out) rfl hx
      have hmx := HM.out x (Rg.mem_at hx)
      have HE0 : Hid (∀ W', Below wr.heap.size wr W' → Calls Tryz.prog 78 #[.agg #[.int .i64 x.i, va, vb, vc], .agg #[.int .i64 x.i, va', vb', vc']] W' fun e w' => e = .returned (.bool true) ∧ Below W'.heap.size W' w') := fun W' hW => eqSig_big x.i va vb vc va' vb' vc' x.a x.b x.c W' (r1.below hW) (r2.below hW) (r3.below hW) (t1.below hW) (t2.below hW) (t3.below hW) hmx.1 hmx.2.1 hmx.2.2
      obtain ⟨a1, k1, rfl, _⟩ := r1
      obtain ⟨a2, k2, rfl, _⟩ := r2
      obtain ⟨a3, k3, rfl, _⟩ := r3
      obtain ⟨a4, k4, rfl, _⟩ := t1
      obtain ⟨a5, k5, rfl, _⟩ := t2
      obtain ⟨a6, k6, rfl, _⟩ := t3
      clear hx hmx
      have hI : (k : Int) < (xs.length : Int) := by omega
      go_upto_region 6 with fail
      obtain ⟨X, hX, W, QI0, QO0⟩ := Qc.klass wr
      have QI : Hid (∀ w', Below wr.heap.size wr w' → ∃ x, w' = W x) := QI0
      have QO : Hid (∀ x, Below wr.heap.size wr (W x)) := QO0
      clear QI0 QO0
      have HE : Hid (∀ q, Calls Tryz.prog 78 #[.agg #[.int .i64 x.i, .slice a1 x.a.length k1, .slice a2 x.b.length k2, .slice a3 x.c.length k3], .agg #[.int .i64 x.i, .slice a4 x.a.length k4, .slice a5 x.b.length k5, .slice a6 x.c.length k6]] (W q) fun e w' => e = .returned (.bool true) ∧ Below (W q).heap.size (W q) w') := fun q => HE0.out _ (QO.out q)
      have y0 := Qc.cell_all QO.out c0
      have y1 := Qc.cell_all QO.out c1
      have y2 := Qc.cell_all QO.out c2
      have y3 := Qc.cell_all QO.out c3
      have z0 := Qc.cell_all QO.out d0
      have z1 := Qc.cell_all QO.out d1
      have z2 := Qc.cell_all QO.out d2
      have z3 := Qc.cell_all QO.out d3
      clear c0 c1 c2 c3 d0 d1 d2 d3
      refine Qc.region_class (W := W) (by kernel_rfl) (by kernel_rfl) (QI.out _ Qc.from_drew) ?_
      repeat (go_big_quiet_step (first | (go_at_call 78; refine (HE.out _).mono ?_; rintro e w2 ⟨rfl, b2⟩; exact ⟨rfl, Qc.back QI.out QO.out b2⟩)))
      refine wpQuiet_nil ?_
      rintro _ ⟨xq, rfl⟩
      have B1 : Hid (Below w.heap.size w (W xq)) := HB.out.trans ((QO.out xq).mono HB.out.size)
      clear y0 y1 y2 y3 z0 z1 z2 z3 QO QI
      generalize W xq = w1 at B1 ⊢
      go_wp2_with fail
      exact ⟨⟨k + 1, by omega, by go_num, B1⟩, by simp [intOf]; omega⟩
    · go_wp2_with fail
      go_ret
      exact ⟨rfl, HB.out⟩
/-- The block of a slice lies from B on. -/
def From (B : Nat) (v : Value) : Prop := ∀ k, v.ownBlock = some k → B ≤ k
theorem From.mono {B B' : Nat} {v : Value} (h : From B v) (hb : B' ≤ B) : From B' v := fun k hk => Nat.le_trans hb (h k hk)
theorem from_sl {B g n c : Nat} (h : B ≤ g) : From B (.slice (some ⟨g, 0, none⟩) n c) := fun k e => by
  simp only [Value.ownBlock, Option.some.injEq] at e
  omega
set_option maxHeartbeats 400000 in
theorem toI_any (v : Value) (xs : List Int) (w : World) (h : Is.RowI w v xs) (hl : xs.length ≤ 1048576) :
    Calls Tryz.prog 18 #[v] w fun e w' => ∃ v', e = .returned v' ∧ Is.RowI w' v' xs ∧ From w.heap.size v' ∧ Below w.heap.size w w' := by
  obtain ⟨a, cap, rfl, h, hr⟩ := h
  obtain ⟨i0, hi, hz0, hz1, hz2⟩ := info_parts Is.info3
  have hmk := run_make (P := Tryz.prog) w 26 3 i0 (.int .i64 0) Tryz.underlying26 hi hz0 .i64 .i64 (xs.length : Int) (xs.length : Int) (by omega) (by omega) (by rw [hz2]; omega) (by omega)
  have hA0 : Is.Copied xs 0 (madeCells (Value.int .i64 0).cells ((xs.length : Int).toNat * i0.size)) := ⟨by rw [hz1]; simp [madeCells, Value.cells], fun j hj => absurd hj (by omega)⟩
  generalize madeCells (Value.int .i64 0).cells ((xs.length : Int).toNat * i0.size) = A0 at hmk hA0
  rw [Int.toNat_natCast] at hmk
  go_enter Tryz.func18, Tryz.ntmps18
  go_wp2_with fail
  clear hmk
  go_loopw [4] (fun i wr => ∃ k : Nat, ∃ A : Array Value, k ≤ xs.length ∧ i = .int .i64 k ∧ wr = w.alloc (.cells A 3) ∧ Is.Copied xs k A) (fun i _ => xs.length - (intOf i).toNat)
  case atStart => exact ⟨0, A0, by omega, rfl, rfl, hA0⟩
  case round =>
    clear hA0
    obtain ⟨k, A, hk, rfl, rfl, hA⟩ := hrel
    by_cases hlt : k < xs.length
    · rcases h with h | ⟨b, off, rfl, hc, hb, hcell⟩
      · exact absurd hlt (by rw [h]; simp)
      have hc1 := hcell k hlt
      have hne : b ≠ w.heap.size := by omega
      obtain ⟨x, hx⟩ : ∃ x, A[k]? = some x := ⟨_, Array.getElem?_eq_getElem (by rw [hA.1]; exact hlt)⟩
      clear hcell
      have hA' : Is.Copied xs (k + 1) (A.setIfInBounds k (.int .i64 (nth xs k))) := by
        refine ⟨by rw [Array.size_setIfInBounds]; exact hA.1, fun j hj => ?_⟩
        rw [Array.getElem?_setIfInBounds]
        by_cases e : k = j
        · subst e
          rw [if_pos rfl, if_pos (by rw [hA.1]; exact hlt)]
        · rw [if_neg e]
          exact hA.2 j (by omega)
      go_wp2
      go_roundw
      case rel => exact ⟨k + 1, _, by omega, by go_num, rfl, hA'⟩
      case measure => simp [intOf]; omega
    · obtain rfl : k = xs.length := by omega
      go_wp2
      go_ret
      refine ⟨_, rfl, ⟨_, _, rfl, .inr ⟨w.heap.size, 0, rfl, Nat.le_refl _, by simp, fun i hi => ?_⟩, hr⟩, from_sl (Nat.le_refl _), (Below.refl _ _).alloc (Nat.le_refl _) _⟩
      rw [Nat.zero_add, World.cell?_alloc_at _ _ _ _ rfl]
      exact hA.2 i hi

/-- No cell of these holds a text. -/
def NoS (A : Array Value) : Prop := ∀ (j : Nat) (s : ByteArray), A[j]? ≠ some (.string s)
theorem NoS.set {A : Array Value} (h : NoS A) (i : Nat) {x : Value} (hx : ∀ s, x ≠ .string s) : NoS (A.setIfInBounds i x) := fun j s e => by
  rw [Array.getElem?_setIfInBounds] at e
  split at e
  · split at e
    · injection e with e; exact hx s e
    · cases e
  · exact h j s e
theorem row_other {w : World} {g j : Nat} {v x : Value} {ts : List ByteArray} {A : Array Value} {t : TypeId} (h : RowT w v ts) (hg : w.heap[g]? = some (.cells A t (0, 0))) (hA : NoS A) : RowT (w.setCell ⟨g, j, none⟩ x) v ts := by
  obtain ⟨a, cap, rfl, h⟩ := h
  refine ⟨a, cap, rfl, ?_⟩
  rcases h with h | ⟨b, off, rfl, hc, hlt, h⟩
  · exact .inl h
  · by_cases h0 : ts = []
    · exact .inl h0
    have hpos : 0 < ts.length := List.length_pos_iff.2 h0
    have hne : b ≠ g := fun e => by
      subst e
      have := h 0 hpos
      rw [Joins.cell_of_block hg] at this
      exact hA _ _ this
    refine .inr ⟨b, off, rfl, hc, by simpa [World.setCell] using hlt, fun i hi => ?_⟩
    have h1 := h i hi
    have h2 := Rg.blk_far (w := w) (b := g) (k := b) hne j x
    simpa only [World.cell?, h2] using h1
/-- Of a copy the first k are written. -/
def Cp (B : Nat) (w : World) (A : Array Value) (xs : List Ks) (k : Nat) : Prop := A.size = xs.length * 4 ∧ NoS A ∧ ∀ (j : Nat) (x : Ks), j < k → xs[j]? = some x → ∃ va vb vc, A[j * 4]? = some (.int .i64 x.i) ∧ A[j * 4 + 1]? = some va ∧ A[j * 4 + 2]? = some vb ∧ A[j * 4 + 3]? = some vc ∧ RowT w va x.a ∧ RowT w vb x.b ∧ RowT w vc x.c ∧ From B va ∧ From B vb ∧ From B vc
theorem Cp.below {B : Nat} {w w' : World} {A : Array Value} {xs : List Ks} {k : Nat} (h : Cp B w A xs k) (hb : Below w.heap.size w w') : Cp B w' A xs k := ⟨h.1, h.2.1, fun j x hj hx => by
  obtain ⟨va, vb, vc, h0, h1, h2, h3, r1, r2, r3, f⟩ := h.2.2 j x hj hx
  exact ⟨va, vb, vc, h0, h1, h2, h3, r1.below hb, r2.below hb, r3.below hb, f⟩⟩
def put4 (A : Array Value) (k : Nat) (i : Int) (va vb vc : Value) : Array Value := (((A.setIfInBounds (k * 4) (.int .i64 i)).setIfInBounds (k * 4 + 1) va).setIfInBounds (k * 4 + 2) vb).setIfInBounds (k * 4 + 3) vc
theorem put4_at (A : Array Value) (k : Nat) (i : Int) (va vb vc : Value) (hk : k * 4 + 3 < A.size) (q : Nat) : (put4 A k i va vb vc)[q]? = if q = k * 4 + 3 then some vc else if q = k * 4 + 2 then some vb else if q = k * 4 + 1 then some va else if q = k * 4 then some (.int .i64 i) else A[q]? := by
  unfold put4
  simp only [Array.getElem?_setIfInBounds, Array.size_setIfInBounds]
  by_cases h3 : k * 4 + 3 = q
  · have e3 : q = k * 4 + 3 := h3.symm
    rw [if_pos h3, if_pos (by omega), if_pos e3]
  have e3 : ¬ q = k * 4 + 3 := fun e => h3 e.symm
  rw [if_neg h3, if_neg e3]
  by_cases h2 : k * 4 + 2 = q
  · have e2 : q = k * 4 + 2 := h2.symm
    rw [if_pos h2, if_pos (by omega), if_pos e2]
  have e2 : ¬ q = k * 4 + 2 := fun e => h2 e.symm
  rw [if_neg h2, if_neg e2]
  by_cases h1 : k * 4 + 1 = q
  · have e1 : q = k * 4 + 1 := h1.symm
    rw [if_pos h1, if_pos (by omega), if_pos e1]
  have e1 : ¬ q = k * 4 + 1 := fun e => h1 e.symm
  rw [if_neg h1, if_neg e1]
  by_cases h0 : k * 4 = q
  · have e0 : q = k * 4 := h0.symm
    rw [if_pos h0, if_pos (by omega), if_pos e0]
  have e0 : ¬ q = k * 4 := fun e => h0 e.symm
  rw [if_neg h0, if_neg e0]
/-- One more of a copy is written. -/
theorem Cp.put {B : Nat} {w : World} {A : Array Value} {xs : List Ks} {k g : Nat} (h : Cp B w A xs k) (hg : w.heap[g]? = some (.cells A 37 (0, 0))) {x : Ks} (hx : xs[k]? = some x) {va vb vc : Value} (r1 : RowT w va x.a) (r2 : RowT w vb x.b) (r3 : RowT w vc x.c) (f1 : From B va) (f2 : From B vb) (f3 : From B vc) :
    ((((w.setCell ⟨g, k * 4, none⟩ (.int .i64 x.i)).setCell ⟨g, k * 4 + 1, none⟩ va).setCell ⟨g, k * 4 + 2, none⟩ vb).setCell ⟨g, k * 4 + 3, none⟩ vc).heap[g]? = some (.cells (put4 A k x.i va vb vc) 37 (0, 0)) ∧
    Cp B ((((w.setCell ⟨g, k * 4, none⟩ (.int .i64 x.i)).setCell ⟨g, k * 4 + 1, none⟩ va).setCell ⟨g, k * 4 + 2, none⟩ vb).setCell ⟨g, k * 4 + 3, none⟩ vc) (put4 A k x.i va vb vc) xs (k + 1) := by
  have hk : k < xs.length := Rg.lt_at hx
  have n1 : ∀ s, va ≠ .string s := fun s e => by obtain ⟨_, _, e2, _⟩ := r1; rw [e] at e2; cases e2
  have n2 : ∀ s, vb ≠ .string s := fun s e => by obtain ⟨_, _, e2, _⟩ := r2; rw [e] at e2; cases e2
  have n3 : ∀ s, vc ≠ .string s := fun s e => by obtain ⟨_, _, e2, _⟩ := r3; rw [e] at e2; cases e2
  have g1 := Rg.blk_set hg (k * 4) (.int .i64 x.i)
  have g2 := Rg.blk_set g1 (k * 4 + 1) va
  have g3 := Rg.blk_set g2 (k * 4 + 2) vb
  have g4 := Rg.blk_set g3 (k * 4 + 3) vc
  have N1 := h.2.1.set (k * 4) (x := .int .i64 x.i) (fun s e => by cases e)
  have N2 := N1.set (k * 4 + 1) n1
  have N3 := N2.set (k * 4 + 2) n2
  have far : ∀ {v : Value} {ts : List ByteArray}, RowT w v ts → RowT ((((w.setCell ⟨g, k * 4, none⟩ (.int .i64 x.i)).setCell ⟨g, k * 4 + 1, none⟩ va).setCell ⟨g, k * 4 + 2, none⟩ vb).setCell ⟨g, k * 4 + 3, none⟩ vc) v ts := fun hr => row_other (row_other (row_other (row_other hr hg h.2.1) g1 N1) g2 N2) g3 N3
  have hA : k * 4 + 3 < A.size := by rw [h.1]; omega
  refine ⟨g4, by unfold put4; simpa using h.1, N3.set (k * 4 + 3) n3, fun j y hj hy => ?_⟩
  by_cases e : j = k
  · subst e
    rw [hx] at hy
    cases hy
    refine ⟨va, vb, vc, ?_, ?_, ?_, ?_, far r1, far r2, far r3, f1, f2, f3⟩
    · rw [put4_at _ _ _ _ _ _ hA, if_neg (by omega), if_neg (by omega), if_neg (by omega), if_pos rfl]
    · rw [put4_at _ _ _ _ _ _ hA, if_neg (by omega), if_neg (by omega), if_pos rfl]
    · rw [put4_at _ _ _ _ _ _ hA, if_neg (by omega), if_pos rfl]
    · rw [put4_at _ _ _ _ _ _ hA, if_pos rfl]
  · obtain ⟨ua, ub, uc, h0, h1, h2, h3, t1, t2, t3, ff⟩ := h.2.2 j y (by omega) hy
    refine ⟨ua, ub, uc, ?_, ?_, ?_, ?_, far t1, far t2, far t3, ff⟩
    · rw [put4_at _ _ _ _ _ _ hA, if_neg (by omega), if_neg (by omega), if_neg (by omega), if_neg (by omega)]; exact h0
    · rw [put4_at _ _ _ _ _ _ hA, if_neg (by omega), if_neg (by omega), if_neg (by omega), if_neg (by omega)]; exact h1
    · rw [put4_at _ _ _ _ _ _ hA, if_neg (by omega), if_neg (by omega), if_neg (by omega), if_neg (by omega)]; exact h2
    · rw [put4_at _ _ _ _ _ _ hA, if_neg (by omega), if_neg (by omega), if_neg (by omega), if_neg (by omega)]; exact h3
/-- Signatures in memory from B on. -/
def E1f (B : Nat) (w : World) (b o : Nat) (x : Ks) : Prop := ∃ va vb vc, w.cell? ⟨b, o, none⟩ = some (.int .i64 x.i) ∧ w.cell? ⟨b, o + 1, none⟩ = some va ∧ w.cell? ⟨b, o + 2, none⟩ = some vb ∧ w.cell? ⟨b, o + 3, none⟩ = some vc ∧ RowT w va x.a ∧ RowT w vb x.b ∧ RowT w vc x.c ∧ From B va ∧ From B vb ∧ From B vc
def RowF (B : Nat) (w : World) (v : Value) (xs : List Ks) : Prop := From B v ∧ RowG 4 (E1f B) w v xs
theorem RowF.row {B : Nat} {w : World} {v : Value} {xs : List Ks} (h : RowF B w v xs) : Row w v xs := by
  obtain ⟨_, a, cap, rfl, h⟩ := h
  refine ⟨a, cap, rfl, ?_⟩
  rcases h with h | ⟨b, off, rfl, hc, hlt, h⟩
  · exact .inl h
  · refine .inr ⟨b, off, rfl, hc, hlt, fun i x hi => ?_⟩
    obtain ⟨va, vb, vc, h0, h1, h2, h3, r1, r2, r3, _⟩ := h i x hi
    exact ⟨va, vb, vc, h0, h1, h2, h3, r1, r2, r3⟩
theorem row_low {w : World} {B p j : Nat} {v x : Value} {ts : List ByteArray} (h : RowT w v ts) (hf : From B v) (hp : p < B) : RowT (w.setCell ⟨p, j, none⟩ x) v ts := row_far h (fun k hk e => by have := hf k hk; omega)
theorem RowF.set {B : Nat} {w : World} {v : Value} {xs : List Ks} {p j : Nat} {x : Value} (h : RowF B w v xs) (hp : p < B) : RowF B (w.setCell ⟨p, j, none⟩ x) v xs := by
  obtain ⟨hf, a, cap, rfl, h⟩ := h
  refine ⟨hf, a, cap, rfl, ?_⟩
  rcases h with h | ⟨b, off, rfl, hc, hlt, h⟩
  · exact .inl h
  · have hb : B ≤ b := hf b rfl
    have h2 : (w.setCell ⟨p, j, none⟩ x).heap[b]? = w.heap[b]? := Rg.blk_far (by omega) j x
    refine .inr ⟨b, off, rfl, hc, by simpa [World.setCell] using hlt, fun i y hi => ?_⟩
    obtain ⟨va, vb, vc, h0, h1, h3, h4, r1, r2, r3, f1, f2, f3⟩ := h i y hi
    refine ⟨va, vb, vc, ?_, ?_, ?_, ?_, row_low r1 f1 hp, row_low r2 f2 hp, row_low r3 f3 hp, f1, f2, f3⟩
    · simpa only [World.cell?, h2] using h0
    · simpa only [World.cell?, h2] using h1
    · simpa only [World.cell?, h2] using h3
    · simpa only [World.cell?, h2] using h4
theorem RowI_low {w : World} {B p j : Nat} {v x : Value} {ns : List Int} (h : Is.RowI w v ns) (hf : From B v) (hp : p < B) : Is.RowI (w.setCell ⟨p, j, none⟩ x) v ns := by
  obtain ⟨a, cap, rfl, h, hr⟩ := h
  refine ⟨a, cap, rfl, ?_, hr⟩
  rcases h with h | ⟨b, off, rfl, hc, hlt, h⟩
  · exact .inl h
  · have hb : B ≤ b := hf b rfl
    have h2 : (w.setCell ⟨p, j, none⟩ x).heap[b]? = w.heap[b]? := Rg.blk_far (by omega) j x
    exact .inr ⟨b, off, rfl, hc, by simpa [World.setCell] using hlt, fun i hi => by simpa only [World.cell?, h2] using h i hi⟩
theorem Cp.row {B : Nat} {w : World} {A : Array Value} {xs : List Ks} {g : Nat} (h : Cp B w A xs xs.length) (hgB : B ≤ g) (hg : w.heap[g]? = some (.cells A 37 (0, 0))) : RowF B w (.slice (some ⟨g, 0, none⟩) xs.length xs.length) xs := by
  refine ⟨from_sl hgB, ⟨_, _, rfl, .inr ⟨g, 0, rfl, Nat.le_refl _, (Array.getElem?_eq_some_iff.1 hg).1, fun i x hi => ?_⟩⟩⟩
  obtain ⟨va, vb, vc, h0, h1, h2, h3, r1, r2, r3, ff⟩ := h.2.2 i x (Rg.lt_at hi) hi
  refine ⟨va, vb, vc, ?_, ?_, ?_, ?_, r1, r2, r3, ff⟩
  · rw [Nat.zero_add, Joins.cell_of_block hg]; exact h0
  · rw [Nat.zero_add, Joins.cell_of_block hg]; exact h1
  · rw [Nat.zero_add, Joins.cell_of_block hg]; exact h2
  · rw [Nat.zero_add, Joins.cell_of_block hg]; exact h3
end Go.Proofs.YtiflfcpoajijaaaGreatDoor.Kc

/- Copies of signatures; certificates of grants: measured, copied, compared, opened. -/
namespace Go.Proofs.YtiflfcpoajijaaaGreatDoor.Kc
open Go.RowKit Go.Proofs.YtiflfcpoajijaaaGreatDoor.Sl Go.Proofs.YtiflfcpoajijaaaGreatDoor.By Go.Proofs.YtiflfcpoajijaaaGreatDoor.Ap Go.Proofs.YtiflfcpoajijaaaGreatDoor.Tx Go.Proofs.YtiflfcpoajijaaaGreatDoor.Mk Go.Proofs.YtiflfcpoajijaaaGreatDoor.Sg Go.Proofs.YtiflfcpoajijaaaGreatDoor.Sq Go.Proofs.YtiflfcpoajijaaaGreatDoor.Sz
open Go.Proofs.YtiflfcpoajijaaaGreatDoor.Rg (RowG Stays)
open Go.Proofs.YtiflfcpoajijaaaGreatDoor.Is (RowI toIntS_any eqIntS_same)
open Go.Proofs.YtiflfcpoajijaaaGreatDoor.Gr12 (Gg gV szG_any toG_any eqG_same)

theorem infoK : (Tryz.prog.info? 37).map (fun i => (i.zero, i.size, i.bytes)) = some (some (.agg #[.int .i64 0, .slice none 0 0, .slice none 0 0, .slice none 0 0]), 4, 80) := by kernel_rfl
theorem made_noS (n : Nat) : NoS (madeCells (Value.agg #[.int .i64 0, .slice none 0 0, .slice none 0 0, .slice none 0 0]).cells n) := fun j s e => by
  have : ∀ (x : Value), (madeCells (Value.agg #[.int .i64 0, .slice none 0 0, .slice none 0 0, .slice none 0 0]).cells n)[j]? = some x → x = .int .i64 0 ∨ x = .slice none 0 0 := fun x hx => by
    unfold madeCells Value.cells at hx
    simp at hx
    obtain ⟨q, _, hx⟩ := hx
    rw [← hx]
    rcases (by omega : q % 4 = 0 ∨ q % 4 = 1 ∨ q % 4 = 2 ∨ q % 4 = 3) with h | h | h | h <;> simp [h]
  rcases this _ e with h | h <;> cases h
/-- A certificate as a value. -/
def crV (g : Gg) (vn vs : Value) : Value := .agg #[.string g.nm, .int .i64 g.hd, .int .i64 g.tk, .int .i64 g.ex, vn, vs]
end Go.Proofs.YtiflfcpoajijaaaGreatDoor.Kc

/- Certificates of grants: copied and compared. -/
namespace Go.Proofs.YtiflfcpoajijaaaGreatDoor.Kc
open Go.RowKit Go.Proofs.YtiflfcpoajijaaaGreatDoor.Sl Go.Proofs.YtiflfcpoajijaaaGreatDoor.By Go.Proofs.YtiflfcpoajijaaaGreatDoor.Ap Go.Proofs.YtiflfcpoajijaaaGreatDoor.Tx Go.Proofs.YtiflfcpoajijaaaGreatDoor.Mk Go.Proofs.YtiflfcpoajijaaaGreatDoor.Sg Go.Proofs.YtiflfcpoajijaaaGreatDoor.Sq Go.Proofs.YtiflfcpoajijaaaGreatDoor.Sz
open Go.Proofs.YtiflfcpoajijaaaGreatDoor.Rg (RowG Stays)
open Go.Proofs.YtiflfcpoajijaaaGreatDoor.Is (RowI eqIntS_same)
open Go.Proofs.YtiflfcpoajijaaaGreatDoor.Gr12 (Gg gV szG_any toG_any eqG_same)

theorem RowF.mono {B B' : Nat} {w : World} {v : Value} {xs : List Ks} (h : RowF B w v xs) (hb : B' ≤ B) : RowF B' w v xs := by
  obtain ⟨hf, a, cap, rfl, h⟩ := h
  refine ⟨hf.mono hb, a, cap, rfl, ?_⟩
  rcases h with h | ⟨b, off, rfl, hc, hlt, h⟩
  · exact .inl h
  · refine .inr ⟨b, off, rfl, hc, hlt, fun i y hi => ?_⟩
    obtain ⟨va, vb, vc, h0, h1, h3, h4, r1, r2, r3, f1, f2, f3⟩ := h i y hi
    exact ⟨va, vb, vc, h0, h1, h3, h4, r1, r2, r3, f1.mono hb, f2.mono hb, f3.mono hb⟩
set_option maxRecDepth 100000 in
set_option maxHeartbeats 1600000 in
theorem eqC_same (g : Gg) (va vb ua ub : Value) (ns : List Int) (ks : List Ks) (w : World) (ra : RowI w va ns) (rb : Row w vb ks) (ta : RowI w ua ns) (tb : Row w ub ks) (zn : ns.length ≤ 1048576) (zk : ks.length ≤ 1048576) (hm : ∀ x ∈ ks, x.a.length ≤ 1048576 ∧ x.b.length ≤ 1048576 ∧ x.c.length ≤ 1048576) :
    Calls Tryz.prog 19 #[crV g va vb, crV g ua ub] w fun e w' => e = .returned (.bool true) ∧ Below w.heap.size w w' := by
  have HN : Hid (∀ W, Below w.heap.size w W → RowI W va ns ∧ RowI W ua ns) := fun W hW => ⟨ra.below hW, ta.below hW⟩
  have HK : Hid (∀ W, Below w.heap.size w W → Row W vb ks ∧ Row W ub ks) := fun W hW => ⟨rb.below hW, tb.below hW⟩
  have HZ : Hid (ns.length ≤ 1048576 ∧ ks.length ≤ 1048576 ∧ ∀ x ∈ ks, x.a.length ≤ 1048576 ∧ x.b.length ≤ 1048576 ∧ x.c.length ≤ 1048576) := ⟨zn, zk, hm⟩
  obtain ⟨a1, k1, rfl, _⟩ := ra
  obtain ⟨a2, k2, rfl⟩ := RowG.slice rb
  obtain ⟨b1, l1, rfl, _⟩ := ta
  obtain ⟨b2, l2, rfl⟩ := RowG.slice tb
  clear rb tb zn zk hm
  have HX : Hid (∀ W, Below ((w.alloc (.cells #[.string g.nm, .int .i64 g.hd, .int .i64 g.tk, .int .i64 g.ex, .slice a1 ns.length k1, .slice a2 ks.length k2] 31)).alloc (.cells #[.string g.nm, .int .i64 g.hd, .int .i64 g.tk, .int .i64 g.ex, .slice b1 ns.length l1, .slice b2 ks.length l2] 31)).heap.size ((w.alloc (.cells #[.string g.nm, .int .i64 g.hd, .int .i64 g.tk, .int .i64 g.ex, .slice a1 ns.length k1, .slice a2 ks.length k2] 31)).alloc (.cells #[.string g.nm, .int .i64 g.hd, .int .i64 g.tk, .int .i64 g.ex, .slice b1 ns.length l1, .slice b2 ks.length l2] 31)) W → ((W.cell? ⟨w.heap.size, 0, none⟩ = some (.string g.nm) ∧ W.cell? ⟨w.heap.size, 1, none⟩ = some (.int .i64 g.hd) ∧ W.cell? ⟨w.heap.size, 2, none⟩ = some (.int .i64 g.tk) ∧ W.cell? ⟨w.heap.size, 3, none⟩ = some (.int .i64 g.ex) ∧ W.cell? ⟨w.heap.size, 4, none⟩ = some (.slice a1 ns.length k1) ∧ W.cell? ⟨w.heap.size, 5, none⟩ = some (.slice a2 ks.length k2)) ∧ (W.cell? ⟨w.heap.size + 1, 0, none⟩ = some (.string g.nm) ∧ W.cell? ⟨w.heap.size + 1, 1, none⟩ = some (.int .i64 g.hd) ∧ W.cell? ⟨w.heap.size + 1, 2, none⟩ = some (.int .i64 g.tk) ∧ W.cell? ⟨w.heap.size + 1, 3, none⟩ = some (.int .i64 g.ex) ∧ W.cell? ⟨w.heap.size + 1, 4, none⟩ = some (.slice b1 ns.length l1) ∧ W.cell? ⟨w.heap.size + 1, 5, none⟩ = some (.slice b2 ks.length l2))) ∧ Below w.heap.size w W) := fun W hW => by
    have h1 := (hW.block w.heap.size (by simp <;> omega)).trans ((Below.heap_alloc _ _ _ (by simp)).trans (heap_alloc_new w _))
    have h2 : W.heap[w.heap.size + 1]? = some (.cells #[.string g.nm, .int .i64 g.hd, .int .i64 g.tk, .int .i64 g.ex, .slice b1 ns.length l1, .slice b2 ks.length l2] 31) := (hW.block (w.heap.size + 1) (by simp)).trans (by rw [← Rg.size_new w (.cells #[.string g.nm, .int .i64 g.hd, .int .i64 g.tk, .int .i64 g.ex, .slice a1 ns.length k1, .slice a2 ks.length k2] 31)]; exact heap_alloc_new (w.alloc (.cells #[.string g.nm, .int .i64 g.hd, .int .i64 g.tk, .int .i64 g.ex, .slice a1 ns.length k1, .slice a2 ks.length k2] 31)) (.cells #[.string g.nm, .int .i64 g.hd, .int .i64 g.tk, .int .i64 g.ex, .slice b1 ns.length l1, .slice b2 ks.length l2] 31))
    exact ⟨⟨⟨by simp only [World.cell?, h1]; rfl, by simp only [World.cell?, h1]; rfl, by simp only [World.cell?, h1]; rfl, by simp only [World.cell?, h1]; rfl, by simp only [World.cell?, h1]; rfl, by simp only [World.cell?, h1]; rfl⟩, ⟨by simp only [World.cell?, h2]; rfl, by simp only [World.cell?, h2]; rfl, by simp only [World.cell?, h2]; rfl, by simp only [World.cell?, h2]; rfl, by simp only [World.cell?, h2]; rfl, by simp only [World.cell?, h2]; rfl⟩⟩, ((bel_new w _).alloc (by simp) _).trans (hW.mono (by simp <;> omega))⟩
  have HG : Hid (∀ W, Calls Tryz.prog 46 #[.agg #[.string g.nm, .int .i64 g.hd, .int .i64 g.tk, .int .i64 g.ex], .agg #[.string g.nm, .int .i64 g.hd, .int .i64 g.tk, .int .i64 g.ex]] W fun e w' => e = .returned (.bool true) ∧ Below W.heap.size W w') := fun W => eqG_same g W
  unfold crV
  go_enter Tryz.func19, Tryz.ntmps19
  go_upto_region 1 with fail
  generalize ((w.alloc (.cells #[.string g.nm, .int .i64 g.hd, .int .i64 g.tk, .int .i64 g.ex, .slice a1 ns.length k1, .slice a2 ks.length k2] 31)).alloc (.cells #[.string g.nm, .int .i64 g.hd, .int .i64 g.tk, .int .i64 g.ex, .slice b1 ns.length l1, .slice b2 ks.length l2] 31)) = wb at HX ⊢
  obtain ⟨⟨⟨c0, c1, c2, c3, c4, c5⟩, ⟨d0, d1, d2, d3, d4, d5⟩⟩, g0⟩ := HX.out wb (Below.refl _ _)
  go_wp2_with fail
  refine (HG.out _).mono ?_
  rintro e w1 ⟨rfl, b1⟩
  have B1 : Hid (Below wb.heap.size wb w1) := b1
  clear b1 c0 c1 c2 c3 c4 c5 d0 d1 d2 d3 d4 d5 g0
  obtain ⟨⟨⟨c0, c1, c2, c3, c4, c5⟩, ⟨d0, d1, d2, d3, d4, d5⟩⟩, g1⟩ := HX.out w1 B1.out
  have E1 := eqIntS_same _ _ ns w1 (HN.out _ g1).1 (HN.out _ g1).2 HZ.out.1
  clear g1
  go_wp2_with fail
  refine E1.mono ?_
  rintro e w2 ⟨rfl, b2⟩
  have B2 : Hid (Below wb.heap.size wb w2) := B1.out.trans (b2.mono B1.out.size)
  clear b2 E1 B1 c0 c1 c2 c3 c4 c5 d0 d1 d2 d3 d4 d5
  obtain ⟨⟨⟨c0, c1, c2, c3, c4, c5⟩, ⟨d0, d1, d2, d3, d4, d5⟩⟩, g1⟩ := HX.out w2 B2.out
  have E2 := eqS_same _ _ ks w2 (HK.out _ g1).1 (HK.out _ g1).2 HZ.out.2.1 HZ.out.2.2
  clear g1
  go_wp2_with fail
  refine E2.mono ?_
  rintro e w3 ⟨rfl, b3⟩
  have G3 : Hid (Below w.heap.size w w3) := (HX.out _ (B2.out.trans (b3.mono B2.out.size))).2
  clear b3 E2 B2 HX c0 c1 c2 c3 c4 c5 d0 d1 d2 d3 d4 d5
  go_wp2_with fail
  go_ret
  exact ⟨rfl, G3.out⟩
end Go.Proofs.YtiflfcpoajijaaaGreatDoor.Kc
