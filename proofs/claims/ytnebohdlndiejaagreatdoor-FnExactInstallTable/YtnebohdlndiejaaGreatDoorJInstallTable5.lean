/- Texts put together: Gt, Xc, Hs, Xd. -/
import Derived.Test.YtnebohdlndiejaaGreatDoorJInstallTable4
import Derived.Maps.AppendAt
import Derived.Test.YtnebohdlndiejaaGreatDoorJInstallTable2
import Derived.Deep.RegionHeldLaw
import Derived.Deep.Cut
import Derived.Test.YtnebohdlndiejaaGreatDoorJInstallTable3
import Derived.Test.YtnebohdlndiejaaGreatDoorQc
import Derived.Lib.SmallJoins
/- Votes in a slice: read, measured, copied, compared. -/
namespace Go.Proofs.YtnebohdlndiejaaGreatDoor.Gt
open Go.RowKit Go.Proofs.YtnebohdlndiejaaGreatDoor.Sl Go.Proofs.YtnebohdlndiejaaGreatDoor.Ap Go.Proofs.YtnebohdlndiejaaGreatDoor.Rg

structure Vo where
  f : Int
  m : ByteArray
instance : Inhabited Vo := ⟨⟨0, ⟨#[]⟩⟩⟩
def E1 (w : World) (b o : Nat) (x : Vo) : Prop := w.cell? ⟨b, o, none⟩ = some (.int .i64 x.f) ∧ w.cell? ⟨b, o + 1, none⟩ = some (.string x.m)
/-- The slice v holds the things xs. -/
def Row (w : World) (v : Value) (xs : List Vo) : Prop := RowG 2 E1 w v xs
def oneV (x : Vo) : Value := .agg #[.int .i64 x.f, .string x.m]
theorem stays1 : Stays E1 := fun _ _ b _ _ hb hlt ⟨h0, h1⟩ => ⟨(hb.cell (p := ⟨b, _, none⟩) hlt).trans h0, (hb.cell (p := ⟨b, _, none⟩) hlt).trans h1⟩
theorem Row.below {w w' : World} {v : Value} {xs : List Vo} (h : Row w v xs) (hb : Below w.heap.size w w') : Row w' v xs := RowG.below stays1 h hb
/-- Its texts are no longer than n. -/
def Tz (n : Nat) (x : Vo) : Prop := x.m.size ≤ n
set_option maxRecDepth 100000 in
set_option maxHeartbeats 800000 in
theorem sz1_any (x : Vo) (l : Nat) (w : World) (hl : l ≤ 1048576) (hz : Tz maxLen x) :
    Calls Tryz.prog 78 #[oneV x, .int .i64 l] w fun e w' => (∃ r : Int, e = .returned (.int .i64 r) ∧ (r = -1 ∨ ∃ q : Nat, r = q ∧ q ≤ l ∧ Tz l x)) ∧ Below w.heap.size w w' := by
  unfold Tz maxLen at hz
  have z0 := hz
  unfold oneV
  by_cases g0 : (l : Int) < (x.m.size : Int)
  · go_enter Tryz.func78, Tryz.ntmps78
    go_wp2_with fail
    go_ret
    exact ⟨⟨_, rfl, .inl rfl⟩, bel_new _ _⟩
  go_enter Tryz.func78, Tryz.ntmps78
  go_wp2_with fail
  go_ret
  refine ⟨⟨_, rfl, .inr ⟨l - (x.m.size), by omega, by omega, ?_⟩⟩, bel_new _ _⟩
  unfold Tz
  omega
set_option maxRecDepth 100000 in
set_option maxHeartbeats 800000 in
theorem szS_any (v : Value) (xs : List Vo) (l : Nat) (w : World) (h : Row w v xs) (hm : ∀ x ∈ xs, Tz maxLen x) (hz : xs.length ≤ maxLen) (hl : l ≤ 1048576) :
    Calls Tryz.prog 44 #[v, .int .i64 l] w fun e w' => (∃ r : Int, e = .returned (.int .i64 r) ∧ (r = -1 ∨ ∃ q : Nat, r = q ∧ q ≤ 1048576 ∧ xs.length ≤ 1048576 ∧ ∀ x ∈ xs, Tz 1048576 x)) ∧ Below w.heap.size w w' := by
  have hz2 : xs.length ≤ 9223372036854775807 := by unfold maxLen at hz; omega
  have HM : Hid (∀ x ∈ xs, Tz maxLen x) := hm
  have HR : Hid (Row w v xs) := h
  obtain ⟨a, cap, rfl⟩ := RowG.slice h
  clear hz hm h
  by_cases hb : (l : Int) < (xs.length : Int)
  · have hb' : (l : Int) - (xs.length : Int) < 0 := by omega
    go_enter Tryz.func44, Tryz.ntmps44
    go_wp2_with fail
    go_ret
    exact ⟨⟨_, rfl, .inl rfl⟩, Below.refl _ _⟩
  have hb' : ¬ (l : Int) - (xs.length : Int) < 0 := by omega
  go_enter Tryz.func44, Tryz.ntmps44
  go_wp2_with fail
  go_loopw [1, 5] (fun l0 i wr => ∃ (k q : Nat), k ≤ xs.length ∧ i = .int .i64 k ∧ l0 = .int .i64 q ∧ q ≤ 1048576 ∧ Hid (∀ j x, j < k → xs[j]? = some x → Tz 1048576 x) ∧ Hid (Below w.heap.size w wr)) (fun _ i _ => xs.length - (intOf i).toNat)
  case atStart => exact ⟨0, l - xs.length, by omega, rfl, by congr 1; omega, by omega, fun j x hj => by omega, Below.refl _ _⟩
  case round =>
    obtain ⟨k, q, hk, rfl, rfl, hq, HJ, HB⟩ := hrel
    by_cases hlt : k < xs.length
    · obtain ⟨x, hx⟩ := Rg.get_at hlt
      obtain ⟨b, off, rfl, hbl, c0, c1⟩ := RowG.at (HR.out.below HB.out) rfl hx
      have HK : Hid (xs[k]? = some x) := hx
      have HMk : Hid (Tz maxLen x) := HM.out _ (mem_at hx)
      clear hx
      go_wp2_with fail
      refine (sz1_any x q wr hq HMk.out).mono ?_
      rintro e w2 ⟨⟨r, rfl, hr⟩, b2⟩
      have HB2 : Hid (Below w.heap.size w w2) := HB.out.trans (b2.mono HB.out.size)
      clear b2
      rcases hr with rfl | ⟨p, rfl, hp, hs⟩
      · go_wp2_with fail
        go_ret
        exact ⟨⟨_, rfl, .inl rfl⟩, HB2.out⟩
      · have HJ2 : Hid (∀ j y, j < k + 1 → xs[j]? = some y → Tz 1048576 y) := fun j y hj hy => by
          by_cases e : j = k
          · subst e
            rw [HK.out] at hy
            cases hy
            unfold Tz at hs ⊢
            omega
          · exact HJ.out j y (by omega) hy
        have hp0 : ¬ (p : Int) < 0 := by omega
        clear hs
        go_wp2_with fail
        exact ⟨⟨k + 1, p, by omega, by go_num, rfl, by omega, HJ2, HB2⟩, by simp [intOf]; omega⟩
    · obtain rfl : k = xs.length := by omega
      go_wp2_with fail
      go_ret
      refine ⟨⟨_, rfl, .inr ⟨q, rfl, hq, by omega, fun x hx => ?_⟩⟩, HB.out⟩
      obtain ⟨j, hj, e⟩ := List.mem_iff_getElem.1 hx
      exact HJ.out j x hj (by rw [List.getElem?_eq_getElem hj, e])
set_option maxRecDepth 100000 in
set_option maxHeartbeats 800000 in
theorem to1_any (x : Vo) (w : World) :
    Calls Tryz.prog 84 #[oneV x] w fun e w' => e = .returned (oneV x) ∧ Below w.heap.size w w' := by
  unfold oneV
  go_enter Tryz.func84, Tryz.ntmps84
  go_wp2_with fail
  refine bodyPost_ret (v := oneV x) (by simp [oneV, results, Tryz.results84, go_sem]) rfl ⟨rfl, ?_⟩
  exact (((Below.refl _ _).alloc (Nat.le_refl _) _).alloc (by simp) _).alloc (by simp; omega) _
theorem info1 : (Tryz.prog.info? 112).map (fun i => (i.zero, i.size, i.bytes)) = some (some (.agg #[.int .i64 0, .string ⟨#[]⟩]), 2, 24) := by kernel_rfl
/-- The copy: its first k are written. -/
def Cop (xs : List Vo) (k : Nat) (A : Array Value) : Prop := A.size = xs.length * 2 ∧ ∀ j x, j < k → xs[j]? = some x → A[j * 2]? = some (.int .i64 x.f) ∧ A[j * 2 + 1]? = some (.string x.m)
theorem cop1 {xs : List Vo} {k : Nat} {A : Array Value} {x : Vo} (h : Cop xs k A) (hx : xs[k]? = some x) :
    Cop xs (k + 1) (((A).setIfInBounds (k * 2) (.int .i64 x.f)).setIfInBounds (k * 2 + 1) (.string x.m)) := by
  have hk := lt_at hx
  have hs := h.1
  refine ⟨by simpa using h.1, fun j y hj hy => ?_⟩
  simp only [Array.getElem?_setIfInBounds, Array.size_setIfInBounds]
  by_cases e : j = k
  · subst e
    rw [hx] at hy
    cases hy
    refine ⟨?_, ?_⟩
    all_goals (repeat' (first | rw [if_pos rfl, if_pos (by omega)] | rw [if_neg (by omega)]))
  · obtain ⟨h0, h1⟩ := h.2 j y (by omega) hy
    refine ⟨?_, ?_⟩
    all_goals (repeat' rw [if_neg (by omega)])
    all_goals assumption
set_option maxRecDepth 100000 in
set_option maxHeartbeats 800000 in
theorem toS_any (v : Value) (xs : List Vo) (w : World) (h : Row w v xs) (hl : xs.length ≤ 1048576) :
    Calls Tryz.prog 51 #[v] w fun e w' => ∃ g, e = .returned (.slice (some ⟨g, 0, none⟩) xs.length xs.length) ∧ w.heap.size ≤ g ∧ g < w'.heap.size ∧ (∀ i x, xs[i]? = some x → E1 w' g (i * 2) x) ∧ Below w.heap.size w w' ∧ Wr w' g (xs.length * 2) := by
  have HR : Hid (Row w v xs) := h
  obtain ⟨a, cap, rfl⟩ := RowG.slice h
  clear h
  obtain ⟨i0, hi, hz0, hz1, hz2⟩ := info_parts info1
  have hmk := run_make (P := Tryz.prog) w 28 112 i0 (.agg #[.int .i64 0, .string ⟨#[]⟩]) Tryz.underlying28 hi hz0 .i64 .i64 (xs.length : Int) (xs.length : Int) (by omega) (by omega) (by rw [hz2]; omega) (by omega)
  have hA0 : Cop xs 0 (madeCells (Value.agg #[.int .i64 0, .string ⟨#[]⟩]).cells ((xs.length : Int).toNat * i0.size)) := ⟨by rw [hz1]; simp [madeCells, Value.cells], fun j x hj => absurd hj (by omega)⟩
  generalize madeCells (Value.agg #[.int .i64 0, .string ⟨#[]⟩]).cells ((xs.length : Int).toNat * i0.size) = A0 at hmk hA0
  rw [Int.toNat_natCast] at hmk
  go_enter Tryz.func51, Tryz.ntmps51
  go_wp2_with fail
  clear hmk
  go_loopw [4] (fun i wr => ∃ k : Nat, ∃ A : Array Value, k ≤ xs.length ∧ i = .int .i64 k ∧ Hid (wr.heap[w.heap.size]? = some (.cells A 112 (0, 0)) ∧ Cop xs k A ∧ Below w.heap.size w wr)) (fun i _ => xs.length - (intOf i).toNat)
  case atStart => exact ⟨0, A0, by omega, rfl, ⟨heap_alloc_new w _, hA0, bel_new _ _⟩⟩
  case round =>
    clear hA0
    obtain ⟨k, A, hk, rfl, HA⟩ := hrel
    by_cases hlt : k < xs.length
    · obtain ⟨x, hx⟩ := Rg.get_at hlt
      obtain ⟨b, off, rfl, hbl, c0, c1⟩ := RowG.at (HR.out.below HA.out.2.2) rfl hx
      have HX : Hid (xs[k]? = some x) := hx
      clear hx
      go_wp2_with fail
      refine (to1_any x wr).mono ?_
      rintro e w2 ⟨rfl, b2⟩
      have hg := (Array.getElem?_eq_some_iff.1 HA.out.1).1
      have HA2 : Hid (w2.heap[w.heap.size]? = some (.cells A 112 (0, 0)) ∧ Cop xs k A ∧ Below w.heap.size w w2) := ⟨(b2.block _ hg).trans HA.out.1, HA.out.2.1, HA.out.2.2.trans (b2.mono HA.out.2.2.size)⟩
      clear b2 c0 c1 HA
      have hsz : k * 2 + 1 < A.size := by rw [HA2.out.2.1.1]; omega
      obtain ⟨d0, f0⟩ := blk_cell HA2.out.1 (k * 2) (x := A[k * 2]) (Array.getElem?_eq_getElem (by omega))
      obtain ⟨d1, f1⟩ := blk_cell HA2.out.1 (k * 2 + 1) (x := A[k * 2 + 1]) (Array.getElem?_eq_getElem (by omega))
      unfold oneV
      go_wp2_with fail
      refine ⟨⟨k + 1, ((A).setIfInBounds (k * 2) (.int .i64 x.f)).setIfInBounds (k * 2 + 1) (.string x.m), by omega, by go_num, ⟨(blk_set (blk_set HA2.out.1 _ _) _ _), cop1 HA2.out.2.1 HX.out, ?_⟩⟩, by simp [intOf]; omega⟩
      exact (Below.setCell (Below.setCell HA2.out.2.2 (p := ⟨w.heap.size, k * 2, none⟩) (Nat.le_refl _) (.int .i64 x.f)) (p := ⟨w.heap.size, k * 2 + 1, none⟩) (Nat.le_refl _) (.string x.m))
    · obtain rfl : k = xs.length := by omega
      go_wp2_with fail
      go_ret
      refine ⟨w.heap.size, rfl, Nat.le_refl _, (Array.getElem?_eq_some_iff.1 HA.out.1).1, fun i x hi => ?_, HA.out.2.2, ⟨A, _, HA.out.1, Nat.le_of_eq HA.out.2.1.1.symm⟩⟩
      obtain ⟨e0, e1⟩ := HA.out.2.1.2 i x (lt_at hi) hi
      exact ⟨(Joins.cell_of_block HA.out.1 _).trans e0, (Joins.cell_of_block HA.out.1 _).trans e1⟩
theorem toS_row {w' : World} {g : Nat} {xs : List Vo} (hg : g < w'.heap.size) (h : ∀ i x, xs[i]? = some x → E1 w' g (i * 2) x) : Row w' (.slice (some ⟨g, 0, none⟩) xs.length xs.length) xs :=
  ⟨_, _, rfl, .inr ⟨g, 0, rfl, Nat.le_refl _, hg, fun i x hi => by rw [Nat.zero_add]; exact h i x hi⟩⟩
set_option maxRecDepth 100000 in
set_option maxHeartbeats 800000 in
theorem eq1_same (x : Vo) (w : World) :
    Calls Tryz.prog 74 #[oneV x, oneV x] w fun e w' => e = .returned (.bool true) ∧ Below w.heap.size w w' := by
  unfold oneV
  have q0 : (x.f != x.f) = false := by simp
  have q1 : (x.m.toList != x.m.toList) = false := by simp
  have r1 : (x.m.toList == x.m.toList) = true := by simp
  go_enter Tryz.func74, Tryz.ntmps74
  go_wp2_with fail
  go_ret
  exact ⟨rfl, ((Below.refl _ _).alloc (Nat.le_refl _) _).alloc (by simp) _⟩
set_option maxRecDepth 100000 in
set_option maxHeartbeats 800000 in
theorem eqS_same (v u0 : Value) (xs : List Vo) (w : World) (h : Row w v xs) (g : Row w u0 xs) (hl : xs.length ≤ 1048576) :
    Calls Tryz.prog 37 #[v, u0] w fun e w' => e = .returned (.bool true) ∧ Below w.heap.size w w' := by
  have HR : Hid (Row w v xs) := h
  have HG : Hid (Row w u0 xs) := g
  obtain ⟨a, cap, rfl⟩ := RowG.slice h
  obtain ⟨a', cap', rfl⟩ := RowG.slice g
  clear h g
  have hne : ((xs.length : Int) != (xs.length : Int)) = false := by simp
  go_enter Tryz.func37, Tryz.ntmps37
  go_wp2_with fail
  go_loopw [5] (fun i wr => ∃ k : Nat, k ≤ xs.length ∧ i = .int .i64 k ∧ Hid (Below w.heap.size w wr)) (fun i _ => xs.length - (intOf i).toNat)
  case atStart => exact ⟨0, by omega, rfl, Below.refl _ _⟩
  case round =>
    obtain ⟨k, hk, rfl, HB⟩ := hrel
    by_cases hlt : k < xs.length
    · obtain ⟨x, hx⟩ := Rg.get_at hlt
      obtain ⟨b, off, rfl, hb, c0, c1⟩ := RowG.at (HR.out.below HB.out) rfl hx
      obtain ⟨b', off', rfl, hb', d0, d1⟩ := RowG.at (HG.out.below HB.out) rfl hx
      have HK : Hid (xs[k]? = some x) := hx
      clear hx
      have hp0 : (0 : Int) ≤ (k : Int) := by omega
      have hp1 : (k : Int) < (xs.length : Int) := by omega
      go_upto_region 6 with fail
      obtain ⟨X, hX, W, QI0, QO0⟩ := Qc.klass wr
      have QI : Hid (∀ w', Below wr.heap.size wr w' → ∃ x, w' = W x) := QI0
      have QO : Hid (∀ x, Below wr.heap.size wr (W x)) := QO0
      clear QI0 QO0
      have y0 := Qc.cell_all QO.out c0
      have z0 := Qc.cell_all QO.out d0
      have y1 := Qc.cell_all QO.out c1
      have z1 := Qc.cell_all QO.out d1
      refine Qc.region_class (W := W) (by kernel_rfl) (by kernel_rfl) (QI.out _ Qc.from_drew) ?_
      repeat (go_big_quiet_step (first | (go_at_call 74; refine (eq1_same x _).mono ?_; rintro e w2 ⟨rfl, b2⟩; exact ⟨rfl, Qc.back QI.out QO.out b2⟩)))
      refine wpQuiet_nil ?_
      rintro _ ⟨xq, rfl⟩
      have G2 : Hid (Below w.heap.size w (W xq)) := HB.out.trans ((QO.out xq).mono HB.out.size)
      generalize W xq = wq at G2 ⊢
      go_wp2_with fail
      exact ⟨⟨k + 1, by omega, by go_num, G2⟩, by simp [intOf]; omega⟩
    · go_wp2_with fail
      go_ret
      exact ⟨rfl, HB.out⟩
set_option maxRecDepth 100000 in
set_option maxHeartbeats 1600000 in
theorem markS_any (g n cap : Nat) (a : Nat) (B C : Nat) (w : World) (h : Wr w g (n * 2)) (hB : B ≤ g) (hC : g < C) (hn : n ≤ 1048576) (ha : a ≤ 1000000000000) (ha0 : 0 < a) :
    Calls Tryz.prog 42 #[.slice (some ⟨g, 0, none⟩) n cap, .int .i64 a] w fun e w' => ∃ r : Nat, e = .returned (.int .i64 (r : Int)) ∧ r ≤ a + n * 2 ∧ 0 < r ∧ Mid B C w w' := by
  have H : Hid (Wr w g (n * 2)) := h
  clear h
  go_enter Tryz.func42, Tryz.ntmps42
  go_wp2_with fail
  go_loopw [1, 5] (fun k i wr => ∃ q r : Nat, q ≤ n ∧ k = .int .i64 (r : Int) ∧ 0 < r ∧ r ≤ a + q * 2 ∧ i = .int .i64 q ∧ Hid (Wr wr g (n * 2) ∧ Mid B C w wr)) (fun _ i _ => n - (intOf i).toNat)
  case atStart => exact ⟨0, a, by omega, rfl, ha0, by omega, rfl, H.out, Mid.refl _ _ _⟩
  case round =>
    obtain ⟨q, r, hq, rfl, hr0, hr, rfl, HA⟩ := hrel
    by_cases hlt : q < n
    · have hsz : q * 2 + 1 < n * 2 := by omega
      obtain ⟨⟨x0, c0⟩, f0⟩ := HA.out.1.cell (j := q * 2) (by omega)
      have HC : Hid (Wr (wr.setCell ⟨g, q * 2, none⟩ (.int .i64 ((r : Int)))) g (n * 2) ∧ Mid B C w (wr.setCell ⟨g, q * 2, none⟩ (.int .i64 ((r : Int))))) := ⟨(HA.out.1.set _ _ _), (HA.out.2.trans (Mid.set hB hC _ _))⟩
      go_wp2_with fail
      generalize (wr.setCell ⟨g, q * 2, none⟩ (.int .i64 ((r : Int)))) = v0 at HC ⊢
      clear HA c0 f0
      obtain ⟨r0, HR0⟩ : ∃ r0 : Nat, Hid (r + 1 = r0) := ⟨_, rfl⟩
      have ER : Hid ((r : Int) + 1 = (r0 : Int)) := by show _ = _; have := HR0.out; omega
      rw [ER.out]
      have l0 : 0 < r0 ∧ r0 ≤ a + q * 2 + 1 := by have := HR0.out; omega
      refine (markText_any r0 v0 l0.1 (by omega)).mono ?_
      rintro e u0 ⟨rfl, b0⟩
      have HD0 : Hid (Wr u0 g (n * 2) ∧ Mid B C w u0) := ⟨HC.out.1.below b0, HC.out.2.trans (Mid.of_below b0)⟩
      generalize mtext r0 = mt0
      obtain ⟨⟨y0, d0⟩, g0⟩ := HD0.out.1.cell (j := q * 2 + 1) (by omega)
      have HE : Hid (Wr (u0.setCell ⟨g, q * 2 + 1, none⟩ (.string mt0)) g (n * 2) ∧ Mid B C w (u0.setCell ⟨g, q * 2 + 1, none⟩ (.string mt0))) := ⟨HD0.out.1.set _ _ _, HD0.out.2.trans (Mid.set hB hC _ _)⟩
      clear HC b0
      go_wp2_with fail
      exact ⟨⟨q + 1, r0 + 1, by omega, by go_num, by omega, by omega, by go_num, HE⟩, by simp [intOf]; omega⟩
    · obtain rfl : q = n := by omega
      go_wp2_with fail
      go_ret
      exact ⟨r, rfl, hr, hr0, HA.out.2⟩
end Go.Proofs.YtnebohdlndiejaaGreatDoor.Gt
namespace Go.Proofs.YtnebohdlndiejaaGreatDoor.Op
open Go.ChangeShapes Go.WideShapes Go.ChangeAt Go.RowKit Go.Deep Go.Proofs.YtnebohdlndiejaaGreatDoor.Rg Go.Proofs.YtnebohdlndiejaaGreatDoor.Gt
set_option maxRecDepth 100000 in
theorem openGt {H : Type} {enc : TypeId × Value → H} {w : World} {base : Nat} {spare : Nat → Bool} {held : Bool} {fuel : Nat} {cs : List Value} {y : DataW H × List MemPlace} (hf : DataW.trod enc Tryz.prog w base spare held fuel 46 cs = some y) :
    ∃ v xs, cs = [v] ∧ Gt.Row w v xs ∧ xs.length ≤ maxLen ∧ ∀ x ∈ xs, Gt.Tz maxLen x := by
  have k1 : Tryz.prog.cellsOf 3 = 1 := by kernel_rfl
  have k2 : Tryz.prog.cellsOf 9 = 1 := by kernel_rfl
  refine open_rows Tryz.underlying46 (c := 2) (by kernel_rfl) (by decide) (fun n cs b o y hl hc ht => ?_) hf
  obtain ⟨xs, k, hk, _, _, hxl, hff⟩ := DataW.trod_struct Tryz.underlying137 ht
  match cs, hl with
  | [v0, v1], _ =>
    match xs, hxl with
    | [y0, y1], _ =>
      have g0 := hff 0 _ rfl
      have g1 := hff 1 _ rfl
      simp [k1, k2] at g0 g1
      obtain ⟨z0, q0, _, _⟩ := DataW.trod_int Tryz.underlying3 g0
      obtain ⟨z1, q1, _, m1⟩ := DataW.trod_string Tryz.underlying9 g1
      simp at q0 q1
      subst q0 q1
      exact ⟨⟨z0, z1⟩, ⟨cell_eq hc 0 (by decide) rfl, cell_eq hc 1 (by decide) rfl⟩, m1⟩
end Go.Proofs.YtnebohdlndiejaaGreatDoor.Op

/- The voters of votes; a quorum of nodes that rise: the program's walks. -/
namespace Go.Proofs.YtnebohdlndiejaaGreatDoor.Xq
open Go.RowKit Go.Proofs.YtnebohdlndiejaaGreatDoor.Tm Go.Proofs.YtnebohdlndiejaaGreatDoor.Sl Go.Proofs.YtnebohdlndiejaaGreatDoor.Is
open Go.Proofs.YtnebohdlndiejaaGreatDoor.Qm (qOut inB)
open Go.Proofs.YtnebohdlndiejaaGreatDoor.Rg (RowG RowG.slice RowG.at lt_at mem_at blk_cell bel_new)
open Go.Proofs.YtnebohdlndiejaaGreatDoor.Gt (Vo E1)

set_option maxRecDepth 100000 in
set_option maxHeartbeats 1600000 in
theorem risingQuorum_any (n : Int) (v : Value) (fs : List Int) (w : World) (h : RowJ w v fs) (hl : fs.length ≤ 1048600) :
    Calls Tryz.prog 69 #[.int .i64 n, v] w fun e w' => e = .returned (.bool (qvB n fs)) ∧ w = w' := by
  have HN := risingNodes_any n v fs w h hl
  have HQ := isQuorum_any (rnM n fs) n w rnM_lt
  have HF : Hid (qvB n fs = (rnB n fs && (decide (fCode n = 0) && decide ((Lib.onesCount (rnM n fs) : Int) = qOut n)))) := qv_rn
  rw [HF.out]
  clear HF h
  generalize (decide (fCode n = 0) && decide ((Lib.onesCount (rnM n fs) : Int) = qOut n)) = q at HQ ⊢
  generalize rnM n fs = mm at HN HQ
  generalize rnB n fs = b at HN ⊢
  cases b with
  | false =>
    go_enter Tryz.func69, Tryz.ntmps69
    go_wp2_with (go_at_call 106; refine HN.mono ?_; rintro e w1 ⟨rfl, rfl⟩)
    go_ret
    exact ⟨rfl, rfl⟩
  | true =>
    go_enter Tryz.func69, Tryz.ntmps69
    go_wp2_with (first | (go_at_call 106; refine HN.mono ?_; rintro e w1 ⟨rfl, rfl⟩) | (go_at_call 107; refine HQ.mono ?_; rintro e w1 ⟨rfl, rfl⟩))
    go_ret
    exact ⟨rfl, rfl⟩
theorem own_nil (w : World) (B : Nat) : OwnI w B (.slice none 0 0) [] := World.ownsRow_nil _ _ _ _
theorem own_below {w w' : World} {B : Nat} {v : Value} {xs : List Int} (h : OwnI w B v xs) (hb : Below w.heap.size w w') : OwnI w' B v xs := by
  have hk : ∀ g, v.ownBlock = some g → w'.heap[g]? = w.heap[g]? := fun g hg => hb.block g (World.ownsRow.lt h g hg).2
  obtain ⟨hl, h⟩ := h
  refine ⟨hl, ?_⟩
  rcases h with h | ⟨g, cap, cur, rfl, hB, hg, hc, hm, hs, htk⟩
  · exact .inl h
  · exact .inr ⟨g, cap, cur, rfl, hB, (hk g rfl).trans hg, hc, hm, hs, htk⟩
/-- One integer more. -/
theorem list_i {P : Program} {ops : Array Oper} {rest : List Oper} {o : Oper} {a : Act} {Q : Exit → Act → World → Prop} (hgd : o.guard = none) (s x : Operand) (t : TypeId)
    (ho : o.op = .call { callee := .builtin .append, args := #[s, x], argTypes := #[t, t] }) (i : TypeInfo) (ht : P.underlying t = some (.slice 3)) (hi : P.info? 3 = some i) (hz : i.zero = some (.int .i64 0))
    (hsize : i.size = 1) (hby : i.bytes = 8) (B : Nat) (w0 W : World) (v : Value) (ts : List Int) (z : Int) (hs : a.eval s = v) (hown : OwnI W B v ts) (hg0 : Below B w0 W) (hB : B ≤ W.heap.size)
    (hx : a.eval x = .slice (some ⟨W.heap.size, 0, none⟩) 1 1) (hlen : ts.length ≤ 1048600)
    (h : ∀ v' w', OwnI w' B v' (ts ++ [z]) → Below B w0 w' → wpList P ops Q rest (a.put o.dst v') w') : wpList P ops Q (o :: rest) a (W.alloc (.cells #[.int .i64 z] 3)) := by
  have hown' : OwnI (W.alloc (.cells #[.int .i64 z] 3)) B v ts := own_below hown (bel_new _ _)
  refine wpList_append_own_at (P := P) _ hgd s x t ho B 3 i (.int .i64 0) 1 8 ht hi hz hsize hby rfl (by decide) v ts.length _ hs hown' ⟨W.heap.size, 0, none⟩ 1 1 [.int .i64 z] hx (by simp) (cell_one_new _ _ _) ?_ (by unfold maxLen; omega) (by omega) (by simp; omega) ?_
  · intro c hc
    simp at hc
    subst hc
    rfl
  · intro v' w' h1 h2 h3 h4
    exact h v' w' (by unfold OwnI; simpa using h1) ((hg0.alloc hB _).grown h2 (by simp; omega) (fun k hk => (World.ownsRow.lt hown' k hk).1))
/-- Who voted. -/
def vfs (vs : List Vo) : List Int := vs.map (·.f)
theorem vfs_length (vs : List Vo) : (vfs vs).length = vs.length := by simp [vfs]
theorem vfs_step {vs : List Vo} {k : Nat} {x : Vo} (h : vs[k]? = some x) : vfs (vs.take (k + 1)) = vfs (vs.take k) ++ [x.f] := by
  unfold vfs
  rw [List.take_add_one, h]
  simp
set_option maxRecDepth 100000 in
set_option maxHeartbeats 1600000 in
theorem votersOf_any (v : Value) (vs : List Vo) (w : World) (h : Gt.Row w v vs) (hl : vs.length ≤ 1048576) :
    Calls Tryz.prog 117 #[v] w fun e w' => ∃ u, e = .returned u ∧ OwnI w' w.heap.size u (vfs vs) ∧ Below w.heap.size w w' := by
  obtain ⟨i0, hi0, hz0, hz1, hz2⟩ := info_parts info3
  have HR : Hid (Gt.Row w v vs) := h
  obtain ⟨a, cap, rfl⟩ := RowG.slice h
  clear h
  go_enter Tryz.func117, Tryz.ntmps117
  go_wp2_with fail
  go_loopw [3, 8] (fun b i wr => ∃ k : Nat, k ≤ vs.length ∧ i = .int .i64 k ∧ Hid (OwnI wr w.heap.size b (vfs (vs.take k)) ∧ Below w.heap.size w wr)) (fun _ i _ => vs.length - (intOf i).toNat)
  case atStart => exact ⟨0, by omega, rfl, ⟨own_nil _ _, Below.refl _ _⟩⟩
  case round =>
    obtain ⟨k, hk, rfl, HZ⟩ := hrel
    obtain ⟨v0, rfl⟩ : ∃ v0, v0 = u3 := ⟨_, rfl⟩
    by_cases hlt : k < vs.length
    · obtain ⟨x, hx⟩ := Rg.get_at hlt
      obtain ⟨b, off, rfl, hbl, c0, c1⟩ := RowG.at (HR.out.below HZ.out.2) rfl hx
      have HS : Hid (vfs (vs.take (k + 1)) = vfs (vs.take k) ++ [x.f]) := vfs_step hx
      have HLN : Hid ((vfs (vs.take k)).length ≤ 1048600) := by show _ ≤ _; rw [vfs_length, List.length_take]; omega
      have HG : Hid (∀ o, OwnI (wr.alloc o) w.heap.size v0 (vfs (vs.take k)) ∧ Below w.heap.size w (wr.alloc o)) := fun o => ⟨own_below HZ.out.1 (bel_new _ _), HZ.out.2.alloc HZ.out.2.size o⟩
      clear hx
      go_wp2_with (at_builtin; go_must (refine list_i (by rfl) _ _ 26 (by rfl) i0 Tryz.underlying26 hi0 hz0 hz1 hz2 w.heap.size w _ _ (vfs (vs.take k)) x.f (by rfl) (HG.out _).1 (HG.out _).2 (HG.out _).2.size (by rw [Rg.size_new]; rfl) HLN.out ?_; intro v1 w1 o1 b1))
      exact ⟨⟨k + 1, by omega, by go_num, by rw [HS.out]; exact ⟨o1, b1⟩⟩, by simp [intOf]; omega⟩
    · obtain rfl : k = vs.length := by omega
      go_wp2_with fail
      go_ret
      refine ⟨_, rfl, ?_, HZ.out.2⟩
      have := HZ.out.1
      rwa [List.take_length] at this
end Go.Proofs.YtnebohdlndiejaaGreatDoor.Xq

/- The laws' helpers over checkpoints. -/
namespace Go.Proofs.YtnebohdlndiejaaGreatDoor.Hs
open Go.RowKit Go.Proofs.YtnebohdlndiejaaGreatDoor.Sl Go.Proofs.YtnebohdlndiejaaGreatDoor.Rg Go.Proofs.YtnebohdlndiejaaGreatDoor.Gt

/-- A checkpoint as a value. -/
def stV (sq sz : Int) (rt : ByteArray) (vr : Value) : Value := .agg #[.int .i64 sq, .int .i64 sz, .string rt, vr]
theorem e_of_block {w w' : World} {g o : Nat} {x : Vo} (h : w'.heap[g]? = w.heap[g]?) (hx : E1 w g o x) : E1 w' g o x := by
  obtain ⟨h0, h1⟩ := hx
  exact ⟨(World.cell?_of_block (a := ⟨g, _, none⟩) h).trans h0, (World.cell?_of_block (a := ⟨g, _, none⟩) h).trans h1⟩
set_option maxRecDepth 100000 in
set_option maxHeartbeats 1600000 in
theorem to_any (sq sz : Int) (rt : ByteArray) (vr : Value) (rs : List Vo) (w : World) (h : Row w vr rs) (hl : rs.length ≤ 1048576) :
    Calls Tryz.prog 20 #[stV sq sz rt vr] w fun e w' => ∃ g, e = .returned (stV sq sz rt (.slice (some ⟨g, 0, none⟩) rs.length rs.length)) ∧ w.heap.size ≤ g ∧ g < w'.heap.size ∧ (∀ i x, rs[i]? = some x → E1 w' g (i * 2) x) ∧ Below w.heap.size w w' ∧ Wr w' g (rs.length * 2) := by
  have HR : Hid (Row w vr rs) := h
  clear h
  unfold stV
  have HB : Hid (∀ o0 o1 o2, Below w.heap.size w (((w.alloc o0).alloc o1).alloc o2)) := fun o0 o1 o2 => (three (Below.refl _ _)).2.2.2.2
  have HS : Hid (∀ o0 o1 o2, (((w.alloc o0).alloc o1).alloc o2).heap.size = w.heap.size + 1 + 1 + 1) := fun o0 o1 o2 => by rw [Rg.size_new, Rg.size_new, Rg.size_new]
  go_enter Tryz.func20, Tryz.ntmps20
  go_wp2_with fail
  refine (toS_any vr rs _ (HR.out.below (HB.out _ _ _)) hl).mono ?_
  rintro e w3 ⟨g, rfl, hg0, hg1, hr, b3, hwr⟩
  obtain ⟨k0, k1, k2, kS, kB⟩ := three b3
  have hgS : w.heap.size + 1 + 1 + 1 ≤ g := by rw [HS.out] at hg0; exact hg0
  have K13 : Hid (w3.heap[w.heap.size + 1]? = some (.cells #[.int .i64 0, .int .i64 0, .string ⟨#[]⟩, .slice none 0 0] 30 (0, 0))) := k1
  have K23 : Hid (w3.heap[w.heap.size + 1 + 1]? = some (.cells #[.int .i64 sq, .int .i64 sz, .string rt, .slice none 0 0] 30 (0, 0))) := k2
  have KB3 : Hid (Below w.heap.size w w3) := kB
  have KR : Hid (g < w3.heap.size ∧ (∀ i y, rs[i]? = some y → E1 w3 g (i * 2) y) ∧ Wr w3 g (rs.length * 2)) := ⟨hg1, hr, hwr⟩
  clear hg0 hg1 hr b3 hwr k0 k1 k2 kS kB HB HS
  obtain ⟨s0, t0⟩ := blk_cell K23.out 3 (x := .slice none 0 0) rfl
  have B2 : Hid ((w3.setCell ⟨w.heap.size + 1 + 1, 3, none⟩ (.slice (some ⟨g, 0, none⟩) rs.length rs.length)).heap[w.heap.size + 1 + 1]? = some (.cells #[.int .i64 sq, .int .i64 sz, .string rt, .slice (some ⟨g, 0, none⟩) rs.length rs.length] 30 (0, 0))) := blk_set K23.out 3 (.slice (some ⟨g, 0, none⟩) rs.length rs.length)
  have A2 : Hid ((w3.setCell ⟨w.heap.size + 1 + 1, 3, none⟩ (.slice (some ⟨g, 0, none⟩) rs.length rs.length)).heap[w.heap.size + 1]? = some (.cells #[.int .i64 0, .int .i64 0, .string ⟨#[]⟩, .slice none 0 0] 30 (0, 0))) := (blk_far (by omega) 3 (.slice (some ⟨g, 0, none⟩) rs.length rs.length)).trans K13.out
  have G2 : Hid (Below w.heap.size w (w3.setCell ⟨w.heap.size + 1 + 1, 3, none⟩ (.slice (some ⟨g, 0, none⟩) rs.length rs.length))) := Below.setCell KB3.out (p := ⟨w.heap.size + 1 + 1, 3, none⟩) (by show _ ≤ w.heap.size + 1 + 1; omega) (.slice (some ⟨g, 0, none⟩) rs.length rs.length)
  have R2 : Hid (g < (w3.setCell ⟨w.heap.size + 1 + 1, 3, none⟩ (.slice (some ⟨g, 0, none⟩) rs.length rs.length)).heap.size ∧ (∀ i y, rs[i]? = some y → E1 (w3.setCell ⟨w.heap.size + 1 + 1, 3, none⟩ (.slice (some ⟨g, 0, none⟩) rs.length rs.length)) g (i * 2) y) ∧ Wr (w3.setCell ⟨w.heap.size + 1 + 1, 3, none⟩ (.slice (some ⟨g, 0, none⟩) rs.length rs.length)) g (rs.length * 2)) := ⟨by simpa using KR.out.1, fun i y hy => e_of_block (blk_far (by omega) 3 (.slice (some ⟨g, 0, none⟩) rs.length rs.length)) (KR.out.2.1 i y hy), KR.out.2.2.set _ _ _⟩
  clear K13 K23 KB3 KR
  go_upto_region 6 with fail
  generalize (w3.setCell ⟨w.heap.size + 1 + 1, 3, none⟩ (.slice (some ⟨g, 0, none⟩) rs.length rs.length)) = w9 at B2 A2 G2 R2 ⊢
  have p0 := (blk_cell B2.out 0 (x := .int .i64 sq) rfl).1
  have p1 := (blk_cell B2.out 1 (x := .int .i64 sz) rfl).1
  have p2 := (blk_cell B2.out 2 (x := .string rt) rfl).1
  have p3 := (blk_cell B2.out 3 (x := .slice (some ⟨g, 0, none⟩) rs.length rs.length) rfl).1
  obtain ⟨m0, n0⟩ := blk_cell A2.out 0 (x := .int .i64 0) rfl
  obtain ⟨m1, n1⟩ := blk_cell A2.out 1 (x := .int .i64 0) rfl
  obtain ⟨m2, n2⟩ := blk_cell A2.out 2 (x := .string ⟨#[]⟩) rfl
  obtain ⟨m3, n3⟩ := blk_cell A2.out 3 (x := .slice none 0 0) rfl
  have AF : ((((w9.setCell ⟨w.heap.size + 1, 0, none⟩ (.int .i64 sq)).setCell ⟨w.heap.size + 1, 1, none⟩ (.int .i64 sz)).setCell ⟨w.heap.size + 1, 2, none⟩ (.string rt)).setCell ⟨w.heap.size + 1, 3, none⟩ (.slice (some ⟨g, 0, none⟩) rs.length rs.length)).heap[w.heap.size + 1]? = some (.cells #[.int .i64 sq, .int .i64 sz, .string rt, .slice (some ⟨g, 0, none⟩) rs.length rs.length] 30 (0, 0)) := (blk_set (blk_set (blk_set (blk_set A2.out 0 (.int .i64 sq)) 1 (.int .i64 sz)) 2 (.string rt)) 3 (.slice (some ⟨g, 0, none⟩) rs.length rs.length))
  have FF : ((((w9.setCell ⟨w.heap.size + 1, 0, none⟩ (.int .i64 sq)).setCell ⟨w.heap.size + 1, 1, none⟩ (.int .i64 sz)).setCell ⟨w.heap.size + 1, 2, none⟩ (.string rt)).setCell ⟨w.heap.size + 1, 3, none⟩ (.slice (some ⟨g, 0, none⟩) rs.length rs.length)).heap[g]? = w9.heap[g]? := ((blk_far (by omega) 3 (.slice (some ⟨g, 0, none⟩) rs.length rs.length)).trans ((blk_far (by omega) 2 (.string rt)).trans ((blk_far (by omega) 1 (.int .i64 sz)).trans ((blk_far (by omega) 0 (.int .i64 sq)).trans (Eq.refl w9.heap[g]?)))))
  have RF : Hid (g < ((((w9.setCell ⟨w.heap.size + 1, 0, none⟩ (.int .i64 sq)).setCell ⟨w.heap.size + 1, 1, none⟩ (.int .i64 sz)).setCell ⟨w.heap.size + 1, 2, none⟩ (.string rt)).setCell ⟨w.heap.size + 1, 3, none⟩ (.slice (some ⟨g, 0, none⟩) rs.length rs.length)).heap.size ∧ (∀ i y, rs[i]? = some y → E1 ((((w9.setCell ⟨w.heap.size + 1, 0, none⟩ (.int .i64 sq)).setCell ⟨w.heap.size + 1, 1, none⟩ (.int .i64 sz)).setCell ⟨w.heap.size + 1, 2, none⟩ (.string rt)).setCell ⟨w.heap.size + 1, 3, none⟩ (.slice (some ⟨g, 0, none⟩) rs.length rs.length)) g (i * 2) y) ∧ Wr ((((w9.setCell ⟨w.heap.size + 1, 0, none⟩ (.int .i64 sq)).setCell ⟨w.heap.size + 1, 1, none⟩ (.int .i64 sz)).setCell ⟨w.heap.size + 1, 2, none⟩ (.string rt)).setCell ⟨w.heap.size + 1, 3, none⟩ (.slice (some ⟨g, 0, none⟩) rs.length rs.length)) g (rs.length * 2) ∧ Below w.heap.size w ((((w9.setCell ⟨w.heap.size + 1, 0, none⟩ (.int .i64 sq)).setCell ⟨w.heap.size + 1, 1, none⟩ (.int .i64 sz)).setCell ⟨w.heap.size + 1, 2, none⟩ (.string rt)).setCell ⟨w.heap.size + 1, 3, none⟩ (.slice (some ⟨g, 0, none⟩) rs.length rs.length))) := ⟨by simpa using R2.out.1, fun i y hy => e_of_block FF (R2.out.2.1 i y hy), ((((R2.out.2.2.set _ _ _).set _ _ _).set _ _ _).set _ _ _), (Below.setCell (Below.setCell (Below.setCell (Below.setCell G2.out (p := ⟨w.heap.size + 1, 0, none⟩) (by show _ ≤ w.heap.size + 1; omega) (.int .i64 sq)) (p := ⟨w.heap.size + 1, 1, none⟩) (by show _ ≤ w.heap.size + 1; omega) (.int .i64 sz)) (p := ⟨w.heap.size + 1, 2, none⟩) (by show _ ≤ w.heap.size + 1; omega) (.string rt)) (p := ⟨w.heap.size + 1, 3, none⟩) (by show _ ≤ w.heap.size + 1; omega) (.slice (some ⟨g, 0, none⟩) rs.length rs.length))⟩
  clear FF R2 G2
  go_wp2_with fail
  generalize ((((w9.setCell ⟨w.heap.size + 1, 0, none⟩ (.int .i64 sq)).setCell ⟨w.heap.size + 1, 1, none⟩ (.int .i64 sz)).setCell ⟨w.heap.size + 1, 2, none⟩ (.string rt)).setCell ⟨w.heap.size + 1, 3, none⟩ (.slice (some ⟨g, 0, none⟩) rs.length rs.length)) = wf at AF RF ⊢
  have d0 := (blk_cell AF 0 (x := .int .i64 sq) rfl).1
  have d1 := (blk_cell AF 1 (x := .int .i64 sz) rfl).1
  have d2 := (blk_cell AF 2 (x := .string rt) rfl).1
  have d3 := (blk_cell AF 3 (x := .slice (some ⟨g, 0, none⟩) rs.length rs.length) rfl).1
  exact bodyPost_ret (v := stV sq sz rt (.slice (some ⟨g, 0, none⟩) rs.length rs.length)) (by simp [stV, results, Tryz.results20, go_sem, d0, d1, d2, d3]) rfl ⟨g, rfl, by omega, RF.out.1, RF.out.2.1, RF.out.2.2.2, RF.out.2.2.1⟩
set_option maxRecDepth 100000 in
set_option maxHeartbeats 1600000 in
theorem sz_any (sq sz : Int) (rt : ByteArray) (l : Nat) (vr : Value) (rs : List Vo) (w : World) (h : Row w vr rs) (hm : ∀ x ∈ rs, Tz maxLen x) (hz : rs.length ≤ maxLen) (hn : rt.size ≤ maxLen) (hl : l ≤ 1048576) :
    Calls Tryz.prog 17 #[stV sq sz rt vr, .int .i64 l] w fun e w' => (∃ r : Int, e = .returned (.int .i64 r) ∧ (r = -1 ∨ ∃ q : Nat, r = q ∧ q ≤ 1048576 ∧ rt.size ≤ 1048576 ∧ rs.length ≤ 1048576 ∧ ∀ x ∈ rs, Tz 1048576 x)) ∧ Below w.heap.size w w' := by
  have HR : Hid (Row w vr rs ∧ (∀ x ∈ rs, Tz maxLen x) ∧ rs.length ≤ maxLen) := ⟨h, hm, hz⟩
  clear h hm hz
  unfold stV
  have hn2 : rt.size ≤ 9223372036854775807 := by unfold maxLen at hn; omega
  clear hn
  have HB1 : Hid (Below w.heap.size w (w.alloc (.cells #[.int .i64 sq, .int .i64 sz, .string rt, vr] 48))) := bel_new _ _
  by_cases hb : (l : Int) < (rt.size : Int)
  · have hb' : (l : Int) - (rt.size : Int) < 0 := by omega
    go_enter Tryz.func17, Tryz.ntmps17
    go_wp2_with fail
    go_ret
    exact ⟨⟨_, rfl, .inl rfl⟩, HB1.out⟩
  · obtain ⟨q, HQ⟩ : ∃ q : Nat, (l : Int) - (rt.size : Int) = q ∧ q ≤ 1048576 := ⟨l - rt.size, by omega, by omega⟩
    have hq0 : ¬ (q : Int) < 0 := by omega
    have hq1 : ¬ (l : Int) - (rt.size : Int) < 0 := by omega
    have HC := szS_any vr rs q (w.alloc (.cells #[.int .i64 sq, .int .i64 sz, .string rt, vr] 48)) (HR.out.1.below HB1.out) HR.out.2.1 HR.out.2.2 HQ.2
    rw [← HQ.1] at HC
    clear HQ
    go_enter Tryz.func17, Tryz.ntmps17
    go_wp2_with fail
    refine HC.mono ?_
    rintro e w2 ⟨⟨r, rfl, hr⟩, b2⟩
    have HB2 : Hid (Below w.heap.size w w2) := HB1.out.trans (b2.mono HB1.out.size)
    clear b2 HC
    rcases hr with rfl | ⟨p, rfl, hp1, hp2, hp3⟩
    · go_wp2_with fail
      go_ret
      exact ⟨⟨_, rfl, .inl rfl⟩, HB2.out⟩
    · have hp0 : ¬ (p : Int) < 0 := by omega
      have HP : Hid (∀ x ∈ rs, Tz 1048576 x) := hp3
      clear hp3
      go_wp2_with fail
      go_ret
      exact ⟨⟨_, rfl, .inr ⟨p, rfl, hp1, by omega, hp2, HP.out⟩⟩, HB2.out⟩
set_option maxRecDepth 100000 in
set_option maxHeartbeats 1600000 in
theorem eq_same (sq sz : Int) (rt : ByteArray) (vr ur : Value) (rs : List Vo) (w : World) (h : Row w vr rs) (g : Row w ur rs) (hl : rs.length ≤ 1048576) :
    Calls Tryz.prog 10 #[stV sq sz rt vr, stV sq sz rt ur] w fun e w' => e = .returned (.bool true) ∧ Below w.heap.size w w' := by
  have HR : Hid (Row w vr rs ∧ Row w ur rs) := ⟨h, g⟩
  clear h g
  unfold stV
  have hne : (rt.toList != rt.toList) = false := by simp
  have hne2 : (rt.toList == rt.toList) = true := by simp
  have hne3 : (sq != sq) = false := by simp
  have hne4 : (sz != sz) = false := by simp
  have HB1 : Hid (Below w.heap.size w ((w.alloc (.cells #[.int .i64 sq, .int .i64 sz, .string rt, vr] 30)).alloc (.cells #[.int .i64 sq, .int .i64 sz, .string rt, ur] 30))) := ((Below.refl _ _).alloc (Nat.le_refl _) _).alloc (by simp) _
  go_enter Tryz.func10, Tryz.ntmps10
  go_wp2_with fail
  refine (eqS_same vr ur rs _ (HR.out.1.below HB1.out) (HR.out.2.below HB1.out) hl).mono ?_
  rintro e w2 ⟨rfl, b2⟩
  have HB2 : Hid (Below w.heap.size w w2) := HB1.out.trans (b2.mono HB1.out.size)
  clear b2
  go_wp2_with fail
  go_ret
  exact ⟨rfl, HB2.out⟩
set_option maxRecDepth 100000 in
set_option maxHeartbeats 1600000 in
theorem mark_any (sq sz : Int) (rt : ByteArray) (g m : Nat) (B C : Nat) (w : World) (h : Wr w g (m * 2)) (hB : B ≤ g) (hC : g < C) (hn : m ≤ 1048576) :
    Calls Tryz.prog 15 #[stV sq sz rt (.slice (some ⟨g, 0, none⟩) m m), .int .i64 1] w fun e w' => (∃ r : Nat, e = .returned (.int .i64 (r : Int))) ∧ Mid B C w w' := by
  have H : Hid (Wr w g (m * 2)) := h
  clear h
  unfold stV
  have HB : Hid (Below w.heap.size w (w.alloc (.cells #[.int .i64 sq, .int .i64 sz, .string rt, .slice (some ⟨g, 0, none⟩) m m] 30))) := bel_new _ _
  have h1 := heap_alloc_new w (.cells #[.int .i64 sq, .int .i64 sz, .string rt, .slice (some ⟨g, 0, none⟩) m m] 30)
  have c6 := (blk_cell h1 3 (x := .slice (some ⟨g, 0, none⟩) m m) rfl).1
  clear h1
  go_enter Tryz.func15, Tryz.ntmps15
  go_wp2_with fail
  refine (markS_any g m m 1 B C _ (H.out.below HB.out) hB hC hn (by decide) (by decide)).mono ?_
  rintro e w1 ⟨r, rfl, _, _, m1⟩
  have HM : Hid (Mid B C w w1) := (Mid.of_below HB.out).trans m1
  clear m1 c6
  go_wp2_with fail
  go_ret
  exact ⟨⟨_, rfl⟩, HM.out⟩
end Go.Proofs.YtnebohdlndiejaaGreatDoor.Hs
namespace Go.Proofs.YtnebohdlndiejaaGreatDoor.Op
open Go.ChangeShapes Go.WideShapes Go.ChangeAt Go.RowKit Go.Deep Go.Proofs.YtnebohdlndiejaaGreatDoor.Gt Go.Proofs.YtnebohdlndiejaaGreatDoor.Hs
set_option maxRecDepth 100000 in
theorem open_stable {H : Type} {enc : TypeId × Value → H} {w : World} {base : Nat} {spare : Nat → Bool} {held : Bool} {r : Reach} {b0 : Nat} {v : Value} {d : DataW H} {p : List MemPlace}
    (hv : Value.okWide Tryz.prog w r b0 48 v) (h : DataW.Trod enc Tryz.prog w base spare held 48 v d p) :
    ∃ (sq sz : Int) (rt : ByteArray) (vr : Value) (rs : List Vo), v = stV sq sz rt vr ∧ Row w vr rs ∧ rs.length ≤ maxLen ∧ (∀ x ∈ rs, Tz maxLen x) ∧ rt.size ≤ maxLen := by
  have k1 : Tryz.prog.cellsOf 3 = 1 := by kernel_rfl
  have k2 : Tryz.prog.cellsOf 9 = 1 := by kernel_rfl
  have k5 : Tryz.prog.cellsOf 46 = 1 := by kernel_rfl
  obtain ⟨cs, rfl, hsz⟩ := okWide_struct Tryz.underlying48 hv
  obtain ⟨fuel, hf⟩ := h
  obtain ⟨xs, n, _, _, hl, hlen, hfs⟩ := DataW.trod_struct Tryz.underlying48 hf
  have hsz2 : cs.size = 4 := hsz.trans (by kernel_rfl)
  obtain ⟨cl⟩ := cs
  match cl, hsz2 with
  | [c0, c1, c2, c3], _ =>
    match xs, hlen with
    | [y0, y1, y2, y3], _ =>
      have g0 := hfs 0 _ rfl
      have g1 := hfs 1 _ rfl
      have g2 := hfs 2 _ rfl
      have g3 := hfs 3 _ rfl
      simp [Value.cells, k1, k2, k5] at g0 g1 g2 g3
      obtain ⟨z0, q0, _, _⟩ := DataW.trod_int Tryz.underlying3 g0
      obtain ⟨z1, q1, _, _⟩ := DataW.trod_int Tryz.underlying3 g1
      obtain ⟨z2, q2, _, m2⟩ := DataW.trod_string Tryz.underlying9 g2
      obtain ⟨v6, rs, q6, r6, l6, t6⟩ := openGt g3
      simp at q0 q1 q2 q6
      subst q0 q1 q2 q6
      exact ⟨z0, z1, z2, _, rs, rfl, r6, l6, t6, m2⟩
end Go.Proofs.YtnebohdlndiejaaGreatDoor.Op

/- Checkpoints that are right: StableOK, of the program and of the specification. -/
namespace Go.Proofs.YtnebohdlndiejaaGreatDoor.Xs
open Go.RowKit Go.Proofs.YtnebohdlndiejaaGreatDoor.Sl Go.Proofs.YtnebohdlndiejaaGreatDoor.Tm Go.Proofs.YtnebohdlndiejaaGreatDoor.Xv Go.Proofs.YtnebohdlndiejaaGreatDoor.Xq
open Go.Proofs.YtnebohdlndiejaaGreatDoor.Sh (KTab KTab.below)
open Go.Proofs.YtnebohdlndiejaaGreatDoor.Hs (stV)
open Go.Proofs.YtnebohdlndiejaaGreatDoor.Gt (Vo)
open Go.Proofs.YtnebohdlndiejaaGreatDoor.Qm (qOut inB)
open Go.Proofs.YtnebohdlndiejaaGreatDoor.Rm (inR inR_nat l01In_any)
open Go.Proofs.YtnebohdlndiejaaGreatDoor.Rg (RowG RowG.slice RowG.at lt_at mem_at blk_cell bel_new)

/-- The mark of the vote k is right; all are. -/
def MkTo (sq sz : Int) (rt : ByteArray) (vs : List Vo) (k : Nat) : Prop := ∀ j x, j < k → vs[j]? = some x → x.m = vmk (frn x.f) sq sz rt
/-- A checkpoint is right. -/
noncomputable def stB (n sq sz : Int) (rt : ByteArray) (vs : List Vo) : Bool := vok sq sz rt && (qvB n (vfs vs) && bOf (MkTo sq sz rt vs vs.length))
theorem vfs_at {vs : List Vo} {k : Nat} {x : Vo} (h : vs[k]? = some x) : (vfs vs)[k]? = some x.f := by unfold vfs; rw [List.getElem?_map, h]; rfl
theorem st_no1 {n sq sz : Int} {rt : ByteArray} {vs : List Vo} (h : vok sq sz rt = false) : stB n sq sz rt vs = false := by unfold stB; rw [h]; rfl
theorem st_no2 {n sq sz : Int} {rt : ByteArray} {vs : List Vo} (h : qvB n (vfs vs) = false) : stB n sq sz rt vs = false := by unfold stB; rw [h, Bool.false_and, Bool.and_false]
theorem st_no3 {n sq sz : Int} {rt : ByteArray} {vs : List Vo} {k : Nat} {x : Vo} (hx : vs[k]? = some x) (h : x.m ≠ vmk (frn x.f) sq sz rt) : stB n sq sz rt vs = false := by
  unfold stB; rw [bOf_false (fun hh => h (hh k x (lt_at hx) hx)), Bool.and_false, Bool.and_false]
theorem st_yes {n sq sz : Int} {rt : ByteArray} {vs : List Vo} (h1 : vok sq sz rt = true) (h2 : qvB n (vfs vs) = true) (h3 : MkTo sq sz rt vs vs.length) : stB n sq sz rt vs = true := by
  unfold stB; rw [h1, h2, bOf_true h3]; rfl
theorem q_isV {n : Int} {vs : List Vo} (h : qvB n (vfs vs) = true) {k : Nat} {x : Vo} (hx : vs[k]? = some x) : isV n x.f = true := (qv_iff.1 h).2.2.1 _ (List.mem_of_getElem? (vfs_at hx))
theorem q_len {n : Int} {vs : List Vo} (h : qvB n (vfs vs) = true) : (vs.length : Int) = qOut n := by have := (qv_iff.1 h).2.1; rwa [vfs_length] at this
theorem q_rise {n : Int} {vs : List Vo} (h : qvB n (vfs vs) = true) {k : Nat} {x y : Vo} (hx : vs[k]? = some x) (hy : vs[k + 1]? = some y) : x.f < y.f := (qv_iff.1 h).2.2.2 k _ _ (by rw [vfs_length]; exact lt_at hy) (vfs_at hx) (vfs_at hy)
theorem q_all {n : Int} {vs : List Vo} (h0 : fCode n = 0) (h1 : (vs.length : Int) = qOut n) (h2 : ∀ (k : Nat) (x : Vo), vs[k]? = some x → isV n x.f = true) (h3 : ∀ (k : Nat) (x y : Vo), vs[k]? = some x → vs[k + 1]? = some y → x.f < y.f) : qvB n (vfs vs) = true := by
  refine qv_iff.2 ⟨h0, by rw [vfs_length]; exact h1, fun f hf => ?_, fun j x y hj hx hy => ?_⟩
  · unfold vfs at hf
    obtain ⟨x, hx, rfl⟩ := List.mem_map.1 hf
    obtain ⟨k, hk, e⟩ := List.getElem_of_mem hx
    exact h2 k x (by rw [List.getElem?_eq_getElem hk, e])
  · unfold vfs at hx hy
    rw [List.getElem?_map] at hx hy
    obtain ⟨a, ha, rfl⟩ := Option.map_eq_some_iff.1 hx
    obtain ⟨b, hb, rfl⟩ := Option.map_eq_some_iff.1 hy
    exact h3 j a b ha hb
theorem inR_isV {n x : Int} (h : fCode n = 0) : inR x 0 (n - 1) = isV n x := by
  unfold inR isV okN inB
  rw [decide_eq_true h, Bool.true_and, Bool.eq_iff_iff]
  simp
theorem toList_inj {a b : ByteArray} (h : a.toList = b.toList) : a = b := by
  rw [Lib.toList_data, Lib.toList_data] at h
  cases a
  cases b
  have h2 := Array.toList_inj.1 h
  simp only at h2
  rw [h2]
theorem ret_b {a b : Bool} (h : a = b) : Ending.returned (.bool a) = .returned (.bool b) := by rw [h]
set_option maxRecDepth 100000 in
set_option maxHeartbeats 1600000 in
theorem implStableOK_any (n sq sz : Int) (rt : ByteArray) (vr : Value) (vs : List Vo) (w : World) (h : Gt.Row w vr vs) (hl : vs.length ≤ 1048576) (hK : KTab w) (hp : 10 < w.heap.size) :
    Calls Tryz.prog 85 #[.int .i64 n, stV sq sz rt vr] w fun e w' => e = .returned (.bool (stB n sq sz rt vs)) ∧ Below w.heap.size w w' := by
  have HR0 : Hid (Gt.Row w vr vs) := h
  obtain ⟨a, cap, rfl⟩ := RowG.slice h
  have HX : Hid (∀ W, Below (w.alloc (.cells #[.int .i64 sq, .int .i64 sz, .string rt, .slice a vs.length cap] 30)).heap.size (w.alloc (.cells #[.int .i64 sq, .int .i64 sz, .string rt, .slice a vs.length cap] 30)) W → (W.cell? ⟨w.heap.size, 0, none⟩ = some (.int .i64 sq) ∧ W.cell? ⟨w.heap.size, 1, none⟩ = some (.int .i64 sz) ∧ W.cell? ⟨w.heap.size, 2, none⟩ = some (.string rt) ∧ W.cell? ⟨w.heap.size, 3, none⟩ = some (.slice a vs.length cap)) ∧ Gt.Row W (.slice a vs.length cap) vs ∧ Below w.heap.size w W ∧ KTab W ∧ 10 < W.heap.size) := fun W hW => by
    have h1 := (hW.block w.heap.size (by simp)).trans (heap_alloc_new w _)
    have b := (bel_new w (.cells #[.int .i64 sq, .int .i64 sz, .string rt, .slice a vs.length cap] 30)).trans (hW.mono (by simp))
    exact ⟨⟨(blk_cell h1 0 rfl).1, (blk_cell h1 1 rfl).1, (blk_cell h1 2 rfl).1, (blk_cell h1 3 rfl).1⟩, HR0.out.below b, b, hK.below b hp, Nat.lt_of_lt_of_le hp b.size⟩
  clear h hK hp HR0
  unfold stV
  cases hv : vok sq sz rt with
  | false =>
    have HE : Hid (stB n sq sz rt vs = false) := st_no1 hv
    go_enter Tryz.func85, Tryz.ntmps85
    go_wp2_with fail
    refine (votable_any sq sz rt _ _).mono ?_
    rintro e w1 ⟨rfl, b1⟩
    rw [hv]
    obtain ⟨_, _, g1, _⟩ := HX.out _ b1
    have G1 : Hid (Below w.heap.size w w1) := g1
    clear g1 b1 hv HX
    go_wp2_with fail
    go_ret
    exact ⟨ret_b HE.out.symm, G1.out⟩
  | true =>
    obtain ⟨z1, _⟩ := vok_size hv
    have HV : Hid (vok sq sz rt = true ∧ rt.size ≤ 1000) := ⟨hv, by omega⟩
    have HVT : Hid (∀ W, Calls Tryz.prog 116 #[.agg #[.int .i64 sq, .int .i64 sz, .string rt, .slice a vs.length cap]] W fun e w' => e = .returned (.bool true) ∧ Below W.heap.size W w') := fun W => by have := votable_any sq sz rt (.slice a vs.length cap) W; rwa [hv] at this
    clear hv z1
    go_enter Tryz.func85, Tryz.ntmps85
    go_upto_region 1 with fail
    generalize w.alloc (.cells #[.int .i64 sq, .int .i64 sz, .string rt, .slice a vs.length cap] 30) = wb at HX ⊢
    obtain ⟨⟨c0, c1, c2, c3⟩, _⟩ := HX.out _ (Below.refl _ _)
    go_wp2_with fail
    refine (HVT.out _).mono ?_
    rintro e w1 ⟨rfl, b1⟩
    clear c0 c1 c2 c3
    obtain ⟨⟨c0, c1, c2, c3⟩, r1, _⟩ := HX.out _ b1
    have R1 : Hid (Gt.Row w1 (.slice a vs.length cap) vs) := r1
    have B1 : Hid (Below wb.heap.size wb w1) := b1
    clear b1 r1 HVT
    go_wp2_with fail
    refine (votersOf_any _ vs w1 R1.out hl).mono ?_
    rintro e w2 ⟨u, rfl, o2, b2⟩
    have B2 : Hid (Below wb.heap.size wb w2) := B1.out.trans (b2.mono B1.out.size)
    have O2 : Hid (RowJ w2 u (vfs vs)) := RowJ.of_own o2
    clear o2 b2 B1 R1 c0 c1 c2 c3
    have HRQ := risingQuorum_any n u (vfs vs) w2 O2.out (by rw [vfs_length]; omega)
    cases hq : qvB n (vfs vs) with
    | false =>
      have HE : Hid (stB n sq sz rt vs = false) := st_no2 hq
      rw [hq] at HRQ
      obtain ⟨_, _, g2, _⟩ := HX.out _ B2.out
      have G2 : Hid (Below w.heap.size w w2) := g2
      clear hq O2 B2 HX g2
      go_wp2_with fail
      refine HRQ.mono ?_
      rintro e w3 ⟨rfl, rfl⟩
      go_wp2_with fail
      go_ret
      exact ⟨ret_b HE.out.symm, G2.out⟩
    | true =>
      have HQ : Hid (qvB n (vfs vs) = true) := hq
      rw [hq] at HRQ
      clear hq O2
      obtain ⟨⟨c0, c1, c2, c3⟩, _⟩ := HX.out _ B2.out
      go_wp2_with fail
      refine HRQ.mono ?_
      rintro e w3 ⟨rfl, rfl⟩
      clear HRQ
      go_wp2_with fail
      clear c0 c1 c2 c3
      go_loopw [21] (fun i wr => ∃ k : Nat, k ≤ vs.length ∧ i = .int .i64 k ∧ Hid (MkTo sq sz rt vs k ∧ Below wb.heap.size wb wr)) (fun i _ => vs.length - (intOf i).toNat)
      case atStart => exact ⟨0, by omega, rfl, ⟨fun j x hj => by omega, B2.out⟩⟩
      case round =>
        obtain ⟨k, hk, rfl, HZ⟩ := hrel
        by_cases hlt : k < vs.length
        · obtain ⟨x, hx⟩ := Rg.get_at hlt
          obtain ⟨cc, rr, _⟩ := HX.out _ HZ.out.2
          obtain ⟨b, off, rfl, hbl, d0, d1⟩ := RowG.at rr rfl hx
          clear rr cc
          obtain ⟨e1, e2⟩ := isV_frn (q_isV HQ.out hx)
          have HN3 : Hid (x.m ≠ vmk (frn x.f) sq sz rt → stB n sq sz rt vs = false) := fun hh => st_no3 hx hh
          have HS3 : Hid (x.m = vmk (frn x.f) sq sz rt → MkTo sq sz rt vs (k + 1)) := fun hh j y hj hy => by
            by_cases e : j = k
            · subst e; rw [hx] at hy; cases hy; exact hh
            · exact HZ.out.1 j y (by omega) hy
          have HBN : Hid (Below wb.heap.size wb (wr.alloc (.cells #[.int .i64 x.f, .string x.m] 112))) := HZ.out.2.trans ((bel_new wr _).mono HZ.out.2.size)
          have HXX : Hid (∀ W, Below (wr.alloc (.cells #[.int .i64 x.f, .string x.m] 112)).heap.size (wr.alloc (.cells #[.int .i64 x.f, .string x.m] 112)) W → W.cell? ⟨wr.heap.size, 0, none⟩ = some (.int .i64 x.f) ∧ W.cell? ⟨wr.heap.size, 1, none⟩ = some (.string x.m)) := fun W hW => by
            have h1 := (hW.block wr.heap.size (by simp)).trans (heap_alloc_new wr _)
            exact ⟨(blk_cell h1 0 rfl).1, (blk_cell h1 1 rfl).1⟩
          generalize frn x.f = i at e1 e2 HN3 HS3
          generalize x.m = m at d1 HXX HBN HN3 HS3
          rw [e1] at d0 HXX HBN
          clear hx e1
          go_upto_region 6 with fail
          generalize wr.alloc (.cells #[.int .i64 (i : Int), .string m] 112) = wv at HXX HBN ⊢
          obtain ⟨x0, x1⟩ := HXX.out wv (Below.refl _ _)
          obtain ⟨⟨c0, c1, c2, c3⟩, _⟩ := HX.out _ HBN.out
          obtain ⟨X, hX, W, QI0, QO0⟩ := Qc.klass wv
          have QI : Hid (∀ w', Below wv.heap.size wv w' → ∃ x, w' = W x) := QI0
          have QO : Hid (∀ x, Below wv.heap.size wv (W x)) := QO0
          clear QI0 QO0
          have QB : Hid (∀ x, Below wb.heap.size wb (W x)) := fun x => HBN.out.trans ((QO.out x).mono HBN.out.size)
          have HVM : Hid (∀ x, Calls Tryz.prog 108 #[.int .i64 i, .agg #[.int .i64 sq, .int .i64 sz, .string rt, .slice (some ⟨b, off, none⟩) vs.length cap]] (W x) fun e w' => e = .returned (.string (vmk i sq sz rt)) ∧ Below (W x).heap.size (W x) w') := fun xq => by
            obtain ⟨_, _, _, hK', hp'⟩ := HX.out _ (QB.out xq)
            exact voteMark_any i sq sz rt _ (W xq) (by omega) HV.out.2 hK' hp'
          have y0 := Qc.cell_all QO.out x0
          have y1 := Qc.cell_all QO.out x1
          have t0 := Qc.cell_all QO.out c0
          have t1 := Qc.cell_all QO.out c1
          have t2 := Qc.cell_all QO.out c2
          have t3 := Qc.cell_all QO.out c3
          generalize vmk i sq sz rt = t at HVM HN3 HS3
          cases he : (m.toList == t.toList) with
          | true =>
            have he2 : (m.toList != t.toList) = false := by rw [bne, he]; rfl
            have HMM : Hid (m = t) := toList_inj (by simpa using he)
            refine Qc.region_class (W := W) (by kernel_rfl) (by kernel_rfl) (QI.out _ Qc.from_drew) ?_
            repeat (go_big_quiet_step (first | (go_at_call 108; refine (HVM.out _).mono ?_; rintro e w2 ⟨rfl, b2⟩; exact ⟨rfl, Qc.back QI.out QO.out b2⟩)))
            refine wpQuiet_nil ?_
            rintro _ ⟨xq, rfl⟩
            have G2 : Hid (Below wb.heap.size wb (W xq)) := QB.out xq
            clear y0 y1 t0 t1 t2 t3
            generalize W xq = wq at G2 ⊢
            go_wp2_with fail
            exact ⟨⟨k + 1, by omega, by go_num, ⟨HS3.out HMM.out, G2.out⟩⟩, by simp [intOf]; omega⟩
          | false =>
            have he2 : (m.toList != t.toList) = true := by rw [bne, he]; rfl
            have HE : Hid (stB n sq sz rt vs = false) := HN3.out (fun hh => by rw [hh] at he; simp at he)
            refine Qc.region_class (W := W) (by kernel_rfl) (by kernel_rfl) (QI.out _ Qc.from_drew) ?_
            repeat (go_big_quiet_step (first | (go_at_call 108; refine (HVM.out _).mono ?_; rintro e w2 ⟨rfl, b2⟩; exact ⟨rfl, Qc.back QI.out QO.out b2⟩)))
            refine wpQuiet_nil ?_
            rintro _ ⟨xq, rfl⟩
            obtain ⟨_, _, g2, _⟩ := HX.out _ (QB.out xq)
            have G2 : Hid (Below w.heap.size w (W xq)) := g2
            clear y0 y1 t0 t1 t2 t3 g2
            generalize W xq = wq at G2 ⊢
            go_wp2_with fail
            go_ret
            exact ⟨ret_b HE.out.symm, G2.out⟩
        · obtain rfl : k = vs.length := by omega
          have HE : Hid (stB n sq sz rt vs = true) := st_yes HV.out.1 HQ.out HZ.out.1
          obtain ⟨_, _, g2, _⟩ := HX.out _ HZ.out.2
          have G2 : Hid (Below w.heap.size w wr) := g2
          clear g2
          go_wp2_with fail
          go_ret
          exact ⟨ret_b HE.out.symm, G2.out⟩
/-- The first k are as the specification asks. -/
def SGo (n sq sz : Int) (rt : ByteArray) (vs : List Vo) (k : Nat) : Prop := ∀ j x, j < k → vs[j]? = some x → isV n x.f = true ∧ (∀ i y, j = i + 1 → vs[i]? = some y → y.f < x.f) ∧ x.m = vmk (frn x.f) sq sz rt
theorem SGo.succ {n sq sz : Int} {rt : ByteArray} {vs : List Vo} {k : Nat} {x : Vo} (h : SGo n sq sz rt vs k) (hx : vs[k]? = some x) (h1 : isV n x.f = true ∧ (∀ i y, k = i + 1 → vs[i]? = some y → y.f < x.f) ∧ x.m = vmk (frn x.f) sq sz rt) : SGo n sq sz rt vs (k + 1) := fun j y hj hy => by
  by_cases e : j = k
  · subst e; rw [hx] at hy; cases hy; exact h1
  · exact h j y (by omega) hy
theorem st_all {n sq sz : Int} {rt : ByteArray} {vs : List Vo} (h0 : fCode n = 0) (h1 : vok sq sz rt = true) (h2 : (vs.length : Int) = qOut n) (h : SGo n sq sz rt vs vs.length) : stB n sq sz rt vs = true :=
  st_yes h1 (q_all h0 h2 (fun k x hx => (h k x (lt_at hx) hx).1) (fun k x y hx hy => (h (k + 1) y (lt_at hy) hy).2.1 k x rfl hx)) (fun j x hj hx => (h j x hj hx).2.2)
theorem st_q {n sq sz : Int} {rt : ByteArray} {vs : List Vo} (h : stB n sq sz rt vs = true) : qvB n (vfs vs) = true := by
  unfold stB at h; rw [Bool.and_eq_true, Bool.and_eq_true] at h; exact h.2.1
theorem st_not {n sq sz : Int} {rt : ByteArray} {vs : List Vo} (h : ¬ qvB n (vfs vs) = true) : stB n sq sz rt vs = false := by
  cases e : stB n sq sz rt vs with
  | false => rfl
  | true => exact absurd (st_q e) h
set_option maxRecDepth 100000 in
set_option maxHeartbeats 1600000 in
theorem l10Stable_any (n sq sz : Int) (rt : ByteArray) (vr : Value) (vs : List Vo) (w : World) (h : Gt.Row w vr vs) (hl : vs.length ≤ 1048576) (hn : fCode n = 0) :
    Calls Tryz.prog 45 #[.int .i64 n, stV sq sz rt vr] w fun e w' => e = .returned (.bool (stB n sq sz rt vs)) ∧ Below w.heap.size w w' := by
  have HR0 : Hid (Gt.Row w vr vs) := h
  obtain ⟨a, cap, rfl⟩ := RowG.slice h
  have HX : Hid (∀ W, Below (w.alloc (.cells #[.int .i64 sq, .int .i64 sz, .string rt, .slice a vs.length cap] 30)).heap.size (w.alloc (.cells #[.int .i64 sq, .int .i64 sz, .string rt, .slice a vs.length cap] 30)) W → (W.cell? ⟨w.heap.size, 0, none⟩ = some (.int .i64 sq) ∧ W.cell? ⟨w.heap.size, 1, none⟩ = some (.int .i64 sz) ∧ W.cell? ⟨w.heap.size, 2, none⟩ = some (.string rt) ∧ W.cell? ⟨w.heap.size, 3, none⟩ = some (.slice a vs.length cap)) ∧ Gt.Row W (.slice a vs.length cap) vs ∧ Below w.heap.size w W) := fun W hW => by
    have h1 := (hW.block w.heap.size (by simp)).trans (heap_alloc_new w _)
    have b := (bel_new w (.cells #[.int .i64 sq, .int .i64 sz, .string rt, .slice a vs.length cap] 30)).trans (hW.mono (by simp))
    exact ⟨⟨(blk_cell h1 0 rfl).1, (blk_cell h1 1 rfl).1, (blk_cell h1 2 rfl).1, (blk_cell h1 3 rfl).1⟩, HR0.out.below b, b⟩
  have hn7 := f_small hn
  have HN0 : Hid (fCode n = 0) := hn
  clear h HR0 hn
  unfold stV
  have HQU : Hid (∀ W, Calls Tryz.prog 31 #[.int .i64 n] W fun e w' => e = .returned (.int .i64 (qOut n)) ∧ W = w') := fun W => Qm.l06Quorum_any n W HN0.out
  have HASK : Hid (∀ W, Calls Tryz.prog 79 #[.int .i64 sq, .int .i64 sz, .string rt] W fun e w' => e = .returned (.bool (vok sq sz rt)) ∧ W = w') := fun W => l10Ask_any sq sz rt W
  have HNQ : Hid (¬ (vs.length : Int) = qOut n → stB n sq sz rt vs = false) := fun hh => st_not (fun hq => hh (q_len hq))
  have HALL : Hid (vok sq sz rt = true → (vs.length : Int) = qOut n → SGo n sq sz rt vs vs.length → stB n sq sz rt vs = true) := fun h1 h2 h3 => st_all HN0.out h1 h2 h3
  generalize qOut n = qn at HQU HNQ HALL
  cases hv : vok sq sz rt with
  | false =>
    have HE : Hid (stB n sq sz rt vs = false) := st_no1 hv
    rw [hv] at HASK
    go_enter Tryz.func45, Tryz.ntmps45
    go_upto_region 1 with fail
    generalize w.alloc (.cells #[.int .i64 sq, .int .i64 sz, .string rt, .slice a vs.length cap] 30) = wb at HX ⊢
    obtain ⟨⟨c0, c1, c2, c3⟩, _, g0⟩ := HX.out _ (Below.refl _ _)
    obtain ⟨X, hX, W, QI0, QO0⟩ := Qc.klass wb
    have QI : Hid (∀ w', Below wb.heap.size wb w' → ∃ x, w' = W x) := QI0
    have QO : Hid (∀ x, Below wb.heap.size wb (W x)) := QO0
    clear QI0 QO0
    have t0 := Qc.cell_all QO.out c0
    have t1 := Qc.cell_all QO.out c1
    have t2 := Qc.cell_all QO.out c2
    have t3 := Qc.cell_all QO.out c3
    refine Qc.region_class (W := W) (by kernel_rfl) (by kernel_rfl) (QI.out _ Qc.from_drew) ?_
    repeat (go_big_quiet_step (first | (go_at_call 79; refine (HASK.out _).mono ?_; rintro e w2 ⟨rfl, rfl⟩; exact ⟨rfl, ⟨_, rfl⟩⟩) | (go_at_call 31; refine (HQU.out _).mono ?_; rintro e w2 ⟨rfl, rfl⟩; exact ⟨rfl, ⟨_, rfl⟩⟩)))
    refine wpQuiet_nil ?_
    rintro _ ⟨xq, rfl⟩
    obtain ⟨_, _, g2⟩ := HX.out _ (QO.out xq)
    have G2 : Hid (Below w.heap.size w (W xq)) := g2
    clear g2 t0 t1 t2 t3
    generalize W xq = wq at G2 ⊢
    go_wp2_with fail
    go_ret
    exact ⟨ret_b HE.out.symm, G2.out⟩
  | true =>
    obtain ⟨z1, _⟩ := vok_size hv
    have HV : Hid (vok sq sz rt = true ∧ rt.size ≤ 1000) := ⟨hv, by omega⟩
    rw [hv] at HASK
    clear hv z1
    go_enter Tryz.func45, Tryz.ntmps45
    go_upto_region 1 with fail
    generalize w.alloc (.cells #[.int .i64 sq, .int .i64 sz, .string rt, .slice a vs.length cap] 30) = wb at HX ⊢
    obtain ⟨⟨c0, c1, c2, c3⟩, _, g0⟩ := HX.out _ (Below.refl _ _)
    obtain ⟨X, hX, W, QI0, QO0⟩ := Qc.klass wb
    have QI : Hid (∀ w', Below wb.heap.size wb w' → ∃ x, w' = W x) := QI0
    have QO : Hid (∀ x, Below wb.heap.size wb (W x)) := QO0
    clear QI0 QO0
    have t0 := Qc.cell_all QO.out c0
    have t1 := Qc.cell_all QO.out c1
    have t2 := Qc.cell_all QO.out c2
    have t3 := Qc.cell_all QO.out c3
    by_cases hq : (vs.length : Int) = qn
    case neg =>
      have HE : Hid (stB n sq sz rt vs = false) := HNQ.out hq
      have hq2 : ((vs.length : Int) != qn) = true := by simpa using hq
      clear hq
      refine Qc.region_class (W := W) (by kernel_rfl) (by kernel_rfl) (QI.out _ Qc.from_drew) ?_
      repeat (go_big_quiet_step (first | (go_at_call 79; refine (HASK.out _).mono ?_; rintro e w2 ⟨rfl, rfl⟩; exact ⟨rfl, ⟨_, rfl⟩⟩) | (go_at_call 31; refine (HQU.out _).mono ?_; rintro e w2 ⟨rfl, rfl⟩; exact ⟨rfl, ⟨_, rfl⟩⟩)))
      refine wpQuiet_nil ?_
      rintro _ ⟨xq, rfl⟩
      obtain ⟨_, _, g2⟩ := HX.out _ (QO.out xq)
      have G2 : Hid (Below w.heap.size w (W xq)) := g2
      clear g2 t0 t1 t2 t3
      generalize W xq = wq at G2 ⊢
      go_wp2_with fail
      go_ret
      exact ⟨ret_b HE.out.symm, G2.out⟩
    case pos =>
      have HQ : Hid ((vs.length : Int) = qn) := hq
      have hq2 : ((vs.length : Int) != qn) = false := by simpa using hq
      clear hq
      refine Qc.region_class (W := W) (by kernel_rfl) (by kernel_rfl) (QI.out _ Qc.from_drew) ?_
      repeat (go_big_quiet_step (first | (go_at_call 79; refine (HASK.out _).mono ?_; rintro e w2 ⟨rfl, rfl⟩; exact ⟨rfl, ⟨_, rfl⟩⟩) | (go_at_call 31; refine (HQU.out _).mono ?_; rintro e w2 ⟨rfl, rfl⟩; exact ⟨rfl, ⟨_, rfl⟩⟩)))
      refine wpQuiet_nil ?_
      rintro _ ⟨xq, rfl⟩
      have B2 : Hid (Below wb.heap.size wb (W xq)) := QO.out xq
      clear c0 c1 c2 c3 g0
      generalize W xq = w2 at B2 ⊢
      clear t0 t1 t2 t3 QI QO
      go_wp2_with fail
      go_loopw [5] (fun i wr => ∃ k : Nat, k ≤ vs.length ∧ i = .int .i64 k ∧ Hid (SGo n sq sz rt vs k ∧ Below wb.heap.size wb wr)) (fun i _ => vs.length - (intOf i).toNat)
      case atStart => exact ⟨0, by omega, rfl, ⟨fun j x hj => by omega, B2.out⟩⟩
      case round =>
        obtain ⟨k, hk, rfl, HZ⟩ := hrel
        obtain ⟨⟨c0, c1, c2, c3⟩, rr, _⟩ := HX.out _ HZ.out.2
        by_cases hlt : k < vs.length
        · obtain ⟨x, hx⟩ := Rg.get_at hlt
          have HPV : Hid (∀ i y, k = i + 1 → vs[i]? = some y → ∃ b off, a = some ⟨b, off, none⟩ ∧ ∀ W, Below wb.heap.size wb W → W.cell? ⟨b, off + i * 2, none⟩ = some (.int .i64 y.f)) := fun i y _ hy => by
            obtain ⟨b, off, ea, _⟩ := RowG.at rr rfl hy
            refine ⟨b, off, ea, fun W hW => ?_⟩
            obtain ⟨_, r2, _⟩ := HX.out _ hW
            obtain ⟨b', off', ea', _, q0, _⟩ := RowG.at r2 rfl hy
            rw [ea] at ea'
            cases ea'
            exact q0
          obtain ⟨b, off, rfl, hbl, d0, d1⟩ := RowG.at rr rfl hx
          clear rr
          have HIN : Hid (∀ W, Calls Tryz.prog 29 #[.int .i64 x.f, .int .i64 0, .int .i64 (n - 1)] W fun e w' => e = .returned (.bool (isV n x.f)) ∧ W = w') := fun W => by have := l01In_any x.f 0 (n - 1) W; rwa [inR_isV HN0.out] at this
          have HN1 : Hid (isV n x.f = false → stB n sq sz rt vs = false) := fun hh => st_not (fun hq => by have := q_isV hq hx; rw [hh] at this; cases this)
          have HN2 : Hid (∀ i y, k = i + 1 → vs[i]? = some y → x.f ≤ y.f → stB n sq sz rt vs = false) := fun i y e hy hle => st_not (fun hq => by subst e; have := q_rise hq hy hx; omega)
          have HN3 : Hid (x.m ≠ vmk (frn x.f) sq sz rt → stB n sq sz rt vs = false) := fun hh => st_no3 hx hh
          have HS3 : Hid (isV n x.f = true → (∀ i y, k = i + 1 → vs[i]? = some y → y.f < x.f) → x.m = vmk (frn x.f) sq sz rt → SGo n sq sz rt vs (k + 1)) := fun h1 h2 h3 => HZ.out.1.succ hx ⟨h1, h2, h3⟩
          have HFR : Hid (isV n x.f = true → x.f = (frn x.f : Int) ∧ frn x.f < 7) := fun hh => isV_frn hh
          have HBN : Hid (Below wb.heap.size wb (wr.alloc (.cells #[.int .i64 x.f, .string x.m] 112))) := HZ.out.2.trans ((bel_new wr _).mono HZ.out.2.size)
          have HXX : Hid (∀ W, Below (wr.alloc (.cells #[.int .i64 x.f, .string x.m] 112)).heap.size (wr.alloc (.cells #[.int .i64 x.f, .string x.m] 112)) W → W.cell? ⟨wr.heap.size, 0, none⟩ = some (.int .i64 x.f) ∧ W.cell? ⟨wr.heap.size, 1, none⟩ = some (.string x.m)) := fun W hW => by
            have h1 := (hW.block wr.heap.size (by simp)).trans (heap_alloc_new wr _)
            exact ⟨(blk_cell h1 0 rfl).1, (blk_cell h1 1 rfl).1⟩
          clear hx
          generalize frn x.f = i at HN3 HS3 HFR
          generalize x.m = m at d1 HXX HBN HN3 HS3
          generalize x.f = f at d0 HXX HBN HIN HN1 HN2 HS3 HFR
          go_upto_region 7 with fail
          clear c0 c1 c2 c3 d0 d1
          generalize wr.alloc (.cells #[.int .i64 f, .string m] 112) = wv at HXX HBN ⊢
          obtain ⟨x0, x1⟩ := HXX.out wv (Below.refl _ _)
          obtain ⟨⟨c0, c1, c2, c3⟩, _⟩ := HX.out _ HBN.out
          obtain ⟨X, hX, W, QI0, QO0⟩ := Qc.klass wv
          have QI : Hid (∀ w', Below wv.heap.size wv w' → ∃ x, w' = W x) := QI0
          have QO : Hid (∀ x, Below wv.heap.size wv (W x)) := QO0
          clear QI0 QO0
          have QB : Hid (∀ x, Below wb.heap.size wb (W x)) := fun x => HBN.out.trans ((QO.out x).mono HBN.out.size)
          have y0 := Qc.cell_all QO.out x0
          have y1 := Qc.cell_all QO.out x1
          have t0 := Qc.cell_all QO.out c0
          have t1 := Qc.cell_all QO.out c1
          have t2 := Qc.cell_all QO.out c2
          have t3 := Qc.cell_all QO.out c3
          clear x0 x1 c0 c1 c2 c3
          cases h1 : isV n f with
          | false =>
            have HE : Hid (stB n sq sz rt vs = false) := HN1.out h1
            have HVM : Hid (∀ x, Calls Tryz.prog 62 #[.int .i64 (0 : Nat), .int .i64 sq, .int .i64 sz, .string rt] (W x) fun e w' => e = .returned (.string (vmk 0 sq sz rt)) ∧ Below (W x).heap.size (W x) w') := fun xq => l10Mac_any 0 sq sz rt (W xq) (by omega) HV.out.2
            rw [h1] at HIN
            clear h1 HN1 HN2 HN3 HS3 HFR
            refine Qc.region_class (W := W) (by kernel_rfl) (by kernel_rfl) (QI.out _ Qc.from_drew) ?_
            repeat (go_big_quiet_step (first | (go_at_call 29; refine (HIN.out _).mono ?_; rintro e w2 ⟨rfl, rfl⟩; exact ⟨rfl, ⟨_, rfl⟩⟩) | (go_at_call 62; refine (HVM.out _).mono ?_; rintro e w2 ⟨rfl, b2⟩; exact ⟨rfl, Qc.back QI.out QO.out b2⟩)))
            refine wpQuiet_nil ?_
            rintro _ ⟨xq, rfl⟩
            obtain ⟨_, _, g2⟩ := HX.out _ (QB.out xq)
            have G2 : Hid (Below w.heap.size w (W xq)) := g2
            clear g2
            clear y0 y1 t0 t1 t2 t3
            generalize W xq = wq at G2 ⊢
            go_wp2_with fail
            go_ret
            exact ⟨ret_b HE.out.symm, G2.out⟩
          | true =>
            obtain ⟨e1, e2⟩ := HFR.out h1
            rw [h1] at HIN HS3
            subst e1
            have HVM : Hid (∀ x, Calls Tryz.prog 62 #[.int .i64 (i : Int), .int .i64 sq, .int .i64 sz, .string rt] (W x) fun e w' => e = .returned (.string (vmk i sq sz rt)) ∧ Below (W x).heap.size (W x) w') := fun xq => l10Mac_any i sq sz rt (W xq) (by omega) HV.out.2
            generalize vmk i sq sz rt = t at HVM HN3 HS3
            clear h1 HN1 HFR
            by_cases hk0 : k = 0
            · subst hk0
              cases he : (m.toList == t.toList) with
              | true =>
                have he2 : (m.toList != t.toList) = false := by rw [bne, he]; rfl
                have HSS : Hid (SGo n sq sz rt vs (0 + 1)) := HS3.out rfl (fun i' y' e => by omega) (toList_inj (by simpa using he))
                refine Qc.region_class (W := W) (by kernel_rfl) (by kernel_rfl) (QI.out _ Qc.from_drew) ?_
                repeat (go_big_quiet_step (first | (go_at_call 29; refine (HIN.out _).mono ?_; rintro e w2 ⟨rfl, rfl⟩; exact ⟨rfl, ⟨_, rfl⟩⟩) | (go_at_call 62; refine (HVM.out _).mono ?_; rintro e w2 ⟨rfl, b2⟩; exact ⟨rfl, Qc.back QI.out QO.out b2⟩)))
                refine wpQuiet_nil ?_
                rintro _ ⟨xq, rfl⟩
                have G2 : Hid (Below wb.heap.size wb (W xq)) := QB.out xq
                clear y0 y1 t0 t1 t2 t3
                generalize W xq = wq at G2 ⊢
                go_wp2_with fail
                exact ⟨⟨0 + 1, by omega, by go_num, ⟨HSS.out, G2.out⟩⟩, by simp [intOf]; omega⟩
              | false =>
                have he2 : (m.toList != t.toList) = true := by rw [bne, he]; rfl
                have HE : Hid (stB n sq sz rt vs = false) := HN3.out (fun hh => by rw [hh] at he; simp at he)
                refine Qc.region_class (W := W) (by kernel_rfl) (by kernel_rfl) (QI.out _ Qc.from_drew) ?_
                repeat (go_big_quiet_step (first | (go_at_call 29; refine (HIN.out _).mono ?_; rintro e w2 ⟨rfl, rfl⟩; exact ⟨rfl, ⟨_, rfl⟩⟩) | (go_at_call 62; refine (HVM.out _).mono ?_; rintro e w2 ⟨rfl, b2⟩; exact ⟨rfl, Qc.back QI.out QO.out b2⟩)))
                refine wpQuiet_nil ?_
                rintro _ ⟨xq, rfl⟩
                obtain ⟨_, _, g2⟩ := HX.out _ (QB.out xq)
                have G2 : Hid (Below w.heap.size w (W xq)) := g2
                clear g2
                clear y0 y1 t0 t1 t2 t3
                generalize W xq = wq at G2 ⊢
                go_wp2_with fail
                go_ret
                exact ⟨ret_b HE.out.symm, G2.out⟩
            · obtain ⟨j, rfl⟩ : ∃ j, k = j + 1 := ⟨k - 1, by omega⟩
              obtain ⟨y, hy⟩ := Rg.get_at (show j < vs.length by omega)
              obtain ⟨b', off', ea, hcell⟩ := HPV.out j y rfl hy
              cases ea
              have HN2' : Hid ((i : Int) ≤ y.f → stB n sq sz rt vs = false) := fun hh => HN2.out j y rfl hy hh
              have HS3' : Hid (y.f < (i : Int) → m = t → SGo n sq sz rt vs (j + 1 + 1)) := fun h1 h2 => HS3.out rfl (fun i' y' e hy' => by
                have : i' = j := by omega
                subst this
                rw [hy] at hy'
                cases hy'
                exact h1) h2
              have yp : ∀ x, (W x).cell? ⟨b, off + j * 2, none⟩ = some (.int .i64 y.f) := fun x => hcell _ (QB.out x)
              clear HPV hcell hy HN2 HS3
              generalize y.f = pf at HN2' HS3' yp
              have q1 : (0 : Int) < (j : Int) + 1 := by omega
              have q2 : (j : Int) + 1 < (vs.length : Int) := by omega
              have q3 : (j : Int) < (vs.length : Int) := by omega
              by_cases hpf : (i : Int) ≤ pf
              · have HE : Hid (stB n sq sz rt vs = false) := HN2'.out hpf
                have hpe : decide ((i : Int) ≤ pf) = true := decide_eq_true hpf
                refine Qc.region_class (W := W) (by kernel_rfl) (by kernel_rfl) (QI.out _ Qc.from_drew) ?_
                repeat (go_big_quiet_step (first | (go_at_call 29; refine (HIN.out _).mono ?_; rintro e w2 ⟨rfl, rfl⟩; exact ⟨rfl, ⟨_, rfl⟩⟩) | (go_at_call 62; refine (HVM.out _).mono ?_; rintro e w2 ⟨rfl, b2⟩; exact ⟨rfl, Qc.back QI.out QO.out b2⟩)))
                refine wpQuiet_nil ?_
                rintro _ ⟨xq, rfl⟩
                obtain ⟨_, _, g2⟩ := HX.out _ (QB.out xq)
                have G2 : Hid (Below w.heap.size w (W xq)) := g2
                clear g2
                clear y0 y1 t0 t1 t2 t3
                generalize W xq = wq at G2 ⊢
                go_wp2_with fail
                go_ret
                exact ⟨ret_b HE.out.symm, G2.out⟩
              · have hpe : decide ((i : Int) ≤ pf) = false := decide_eq_false hpf
                have HS3 : Hid (m = t → SGo n sq sz rt vs (j + 1 + 1)) := fun hh => HS3'.out (by omega) hh
                clear HS3'
                cases he : (m.toList == t.toList) with
                | true =>
                  have he2 : (m.toList != t.toList) = false := by rw [bne, he]; rfl
                  have HSS : Hid (SGo n sq sz rt vs (j + 1 + 1)) := HS3.out (toList_inj (by simpa using he))
                  refine Qc.region_class (W := W) (by kernel_rfl) (by kernel_rfl) (QI.out _ Qc.from_drew) ?_
                  repeat (go_big_quiet_step (first | (go_at_call 29; refine (HIN.out _).mono ?_; rintro e w2 ⟨rfl, rfl⟩; exact ⟨rfl, ⟨_, rfl⟩⟩) | (go_at_call 62; refine (HVM.out _).mono ?_; rintro e w2 ⟨rfl, b2⟩; exact ⟨rfl, Qc.back QI.out QO.out b2⟩)))
                  refine wpQuiet_nil ?_
                  rintro _ ⟨xq, rfl⟩
                  have G2 : Hid (Below wb.heap.size wb (W xq)) := QB.out xq
                  clear y0 y1 t0 t1 t2 t3
                  generalize W xq = wq at G2 ⊢
                  go_wp2_with fail
                  exact ⟨⟨j + 1 + 1, by omega, by go_num, ⟨HSS.out, G2.out⟩⟩, by simp [intOf]; omega⟩
                | false =>
                  have he2 : (m.toList != t.toList) = true := by rw [bne, he]; rfl
                  have HE : Hid (stB n sq sz rt vs = false) := HN3.out (fun hh => by rw [hh] at he; simp at he)
                  refine Qc.region_class (W := W) (by kernel_rfl) (by kernel_rfl) (QI.out _ Qc.from_drew) ?_
                  repeat (go_big_quiet_step (first | (go_at_call 29; refine (HIN.out _).mono ?_; rintro e w2 ⟨rfl, rfl⟩; exact ⟨rfl, ⟨_, rfl⟩⟩) | (go_at_call 62; refine (HVM.out _).mono ?_; rintro e w2 ⟨rfl, b2⟩; exact ⟨rfl, Qc.back QI.out QO.out b2⟩)))
                  refine wpQuiet_nil ?_
                  rintro _ ⟨xq, rfl⟩
                  obtain ⟨_, _, g2⟩ := HX.out _ (QB.out xq)
                  have G2 : Hid (Below w.heap.size w (W xq)) := g2
                  clear g2
                  clear y0 y1 t0 t1 t2 t3
                  generalize W xq = wq at G2 ⊢
                  go_wp2_with fail
                  go_ret
                  exact ⟨ret_b HE.out.symm, G2.out⟩
        · obtain rfl : k = vs.length := by omega
          have HE : Hid (stB n sq sz rt vs = true) := HALL.out HV.out.1 HQ.out HZ.out.1
          obtain ⟨_, _, g2⟩ := HX.out _ HZ.out.2
          have G2 : Hid (Below w.heap.size w wr) := g2
          clear g2
          go_wp2_with fail
          go_ret
          exact ⟨ret_b HE.out.symm, G2.out⟩
end Go.Proofs.YtnebohdlndiejaaGreatDoor.Xs
