/- Messages in a slice: read, measured, copied, compared. -/
import Derived.Test.YtddmdnljfnimbaaGreatDoorRg
namespace Go.Proofs.YtddmdnljfnimbaaGreatDoor.Gm
open Go.RowKit Go.Proofs.YtddmdnljfnimbaaGreatDoor.Sl Go.Proofs.YtddmdnljfnimbaaGreatDoor.Ap Go.Proofs.YtddmdnljfnimbaaGreatDoor.Rg

structure Mg where
  kd : Int
  vw : Int
  sq : Int
  fr : Int
  dg : ByteArray
  bd : ByteArray
  mc : ByteArray
instance : Inhabited Mg := ⟨⟨0, 0, 0, 0, ⟨#[]⟩, ⟨#[]⟩, ⟨#[]⟩⟩⟩
def E1 (w : World) (b o : Nat) (x : Mg) : Prop := w.cell? ⟨b, o, none⟩ = some (.int .i64 x.kd) ∧ w.cell? ⟨b, o + 1, none⟩ = some (.int .i64 x.vw) ∧ w.cell? ⟨b, o + 2, none⟩ = some (.int .i64 x.sq) ∧ w.cell? ⟨b, o + 3, none⟩ = some (.int .i64 x.fr) ∧ w.cell? ⟨b, o + 4, none⟩ = some (.string x.dg) ∧ w.cell? ⟨b, o + 5, none⟩ = some (.string x.bd) ∧ w.cell? ⟨b, o + 6, none⟩ = some (.string x.mc)
/-- The slice v holds the things xs. -/
def Row (w : World) (v : Value) (xs : List Mg) : Prop := RowG 7 E1 w v xs
def oneV (x : Mg) : Value := .agg #[.int .i64 x.kd, .int .i64 x.vw, .int .i64 x.sq, .int .i64 x.fr, .string x.dg, .string x.bd, .string x.mc]
theorem stays1 : Stays E1 := fun _ _ b _ _ hb hlt ⟨h0, h1, h2, h3, h4, h5, h6⟩ => ⟨(hb.cell (p := ⟨b, _, none⟩) hlt).trans h0, (hb.cell (p := ⟨b, _, none⟩) hlt).trans h1, (hb.cell (p := ⟨b, _, none⟩) hlt).trans h2, (hb.cell (p := ⟨b, _, none⟩) hlt).trans h3, (hb.cell (p := ⟨b, _, none⟩) hlt).trans h4, (hb.cell (p := ⟨b, _, none⟩) hlt).trans h5, (hb.cell (p := ⟨b, _, none⟩) hlt).trans h6⟩
theorem Row.below {w w' : World} {v : Value} {xs : List Mg} (h : Row w v xs) (hb : Below w.heap.size w w') : Row w' v xs := RowG.below stays1 h hb
/-- Its texts are no longer than n. -/
def Tz (n : Nat) (x : Mg) : Prop := x.dg.size ≤ n ∧ x.bd.size ≤ n ∧ x.mc.size ≤ n
set_option maxRecDepth 100000 in
set_option maxHeartbeats 800000 in
theorem sz1_any (x : Mg) (l : Nat) (w : World) (hl : l ≤ 1048576) (hz : Tz maxLen x) :
    Calls Tryz.prog 11 #[oneV x, .int .i64 l] w fun e w' => (∃ r : Int, e = .returned (.int .i64 r) ∧ (r = -1 ∨ ∃ q : Nat, r = q ∧ q ≤ l ∧ Tz l x)) ∧ Below w.heap.size w w' := by
  unfold Tz maxLen at hz
  obtain ⟨z0, z1, z2⟩ := hz
  unfold oneV
  by_cases g0 : (l : Int) < (x.dg.size : Int)
  · go_enter Tryz.func11, Tryz.ntmps11
    go_wp2_with fail
    go_ret
    exact ⟨⟨_, rfl, .inl rfl⟩, bel_new _ _⟩
  by_cases g1 : (l : Int) - (x.dg.size : Int) < (x.bd.size : Int)
  · go_enter Tryz.func11, Tryz.ntmps11
    go_wp2_with fail
    go_ret
    exact ⟨⟨_, rfl, .inl rfl⟩, bel_new _ _⟩
  by_cases g2 : (l : Int) - (x.dg.size : Int) - (x.bd.size : Int) < (x.mc.size : Int)
  · go_enter Tryz.func11, Tryz.ntmps11
    go_wp2_with fail
    go_ret
    exact ⟨⟨_, rfl, .inl rfl⟩, bel_new _ _⟩
  go_enter Tryz.func11, Tryz.ntmps11
  go_wp2_with fail
  go_ret
  refine ⟨⟨_, rfl, .inr ⟨l - (x.dg.size + x.bd.size + x.mc.size), by omega, by omega, ?_⟩⟩, bel_new _ _⟩
  unfold Tz
  omega
set_option maxRecDepth 100000 in
set_option maxHeartbeats 800000 in
theorem szS_any (v : Value) (xs : List Mg) (l : Nat) (w : World) (h : Row w v xs) (hm : ∀ x ∈ xs, Tz maxLen x) (hz : xs.length ≤ maxLen) (hl : l ≤ 1048576) :
    Calls Tryz.prog 18 #[v, .int .i64 l] w fun e w' => (∃ r : Int, e = .returned (.int .i64 r) ∧ (r = -1 ∨ ∃ q : Nat, r = q ∧ q ≤ 1048576 ∧ xs.length ≤ 1048576 ∧ ∀ x ∈ xs, Tz 1048576 x)) ∧ Below w.heap.size w w' := by
  have hz2 : xs.length ≤ 9223372036854775807 := by unfold maxLen at hz; omega
  have HM : Hid (∀ x ∈ xs, Tz maxLen x) := hm
  have HR : Hid (Row w v xs) := h
  obtain ⟨a, cap, rfl⟩ := RowG.slice h
  clear hz hm h
  by_cases hb : (l : Int) < (xs.length : Int)
  · have hb' : (l : Int) - (xs.length : Int) < 0 := by omega
    go_enter Tryz.func18, Tryz.ntmps18
    go_wp2_with fail
    go_ret
    exact ⟨⟨_, rfl, .inl rfl⟩, Below.refl _ _⟩
  have hb' : ¬ (l : Int) - (xs.length : Int) < 0 := by omega
  go_enter Tryz.func18, Tryz.ntmps18
  go_wp2_with fail
  go_loopw [1, 5] (fun l0 i wr => ∃ (k q : Nat), k ≤ xs.length ∧ i = .int .i64 k ∧ l0 = .int .i64 q ∧ q ≤ 1048576 ∧ Hid (∀ j x, j < k → xs[j]? = some x → Tz 1048576 x) ∧ Hid (Below w.heap.size w wr)) (fun _ i _ => xs.length - (intOf i).toNat)
  case atStart => exact ⟨0, l - xs.length, by omega, rfl, by congr 1; omega, by omega, fun j x hj => by omega, Below.refl _ _⟩
  case round =>
    obtain ⟨k, q, hk, rfl, rfl, hq, HJ, HB⟩ := hrel
    by_cases hlt : k < xs.length
    · obtain ⟨x, hx⟩ := Rg.get_at hlt
      obtain ⟨b, off, rfl, hbl, c0, c1, c2, c3, c4, c5, c6⟩ := RowG.at (HR.out.below HB.out) rfl hx
      have HK : Hid (xs[k]? = some x) := hx
      have HMk : Hid (Tz maxLen x) := HM.out _ (mem_at hx)
      clear hx
      go_wp2_with fail
      refine (sz1_any x q wr hq HMk.out).mono ?_
      rintro e w2 ⟨⟨r, rfl, hr⟩, b2⟩
      have HB2 : Hid (Below w.heap.size w w2) := HB.out.trans (b2.mono HB.out.size)
      clear b2
      rcases hr with rfl | ⟨p, rfl, hp, hs⟩
      · go_wp2_with fail
        go_ret
        exact ⟨⟨_, rfl, .inl rfl⟩, HB2.out⟩
      · have HJ2 : Hid (∀ j y, j < k + 1 → xs[j]? = some y → Tz 1048576 y) := fun j y hj hy => by
          by_cases e : j = k
          · subst e
            rw [HK.out] at hy
            cases hy
            unfold Tz at hs ⊢
            omega
          · exact HJ.out j y (by omega) hy
        have hp0 : ¬ (p : Int) < 0 := by omega
        clear hs
        go_wp2_with fail
        exact ⟨⟨k + 1, p, by omega, by go_num, rfl, by omega, HJ2, HB2⟩, by simp [intOf]; omega⟩
    · obtain rfl : k = xs.length := by omega
      go_wp2_with fail
      go_ret
      refine ⟨⟨_, rfl, .inr ⟨q, rfl, hq, by omega, fun x hx => ?_⟩⟩, HB.out⟩
      obtain ⟨j, hj, e⟩ := List.mem_iff_getElem.1 hx
      exact HJ.out j x hj (by rw [List.getElem?_eq_getElem hj, e])
set_option maxRecDepth 100000 in
set_option maxHeartbeats 800000 in
theorem to1_any (x : Mg) (w : World) :
    Calls Tryz.prog 13 #[oneV x] w fun e w' => e = .returned (oneV x) ∧ Below w.heap.size w w' := by
  unfold oneV
  go_enter Tryz.func13, Tryz.ntmps13
  go_wp2_with fail
  refine bodyPost_ret (v := oneV x) (by simp [oneV, results, Tryz.results13, go_sem]) rfl ⟨rfl, ?_⟩
  exact (((Below.refl _ _).alloc (Nat.le_refl _) _).alloc (by simp) _).alloc (by simp; omega) _
theorem info1 : (Tryz.prog.info? 39).map (fun i => (i.zero, i.size, i.bytes)) = some (some (.agg #[.int .i64 0, .int .i64 0, .int .i64 0, .int .i64 0, .string ⟨#[]⟩, .string ⟨#[]⟩, .string ⟨#[]⟩]), 7, 80) := by kernel_rfl
/-- The copy: its first k are written. -/
def Cop (xs : List Mg) (k : Nat) (A : Array Value) : Prop := A.size = xs.length * 7 ∧ ∀ j x, j < k → xs[j]? = some x → A[j * 7]? = some (.int .i64 x.kd) ∧ A[j * 7 + 1]? = some (.int .i64 x.vw) ∧ A[j * 7 + 2]? = some (.int .i64 x.sq) ∧ A[j * 7 + 3]? = some (.int .i64 x.fr) ∧ A[j * 7 + 4]? = some (.string x.dg) ∧ A[j * 7 + 5]? = some (.string x.bd) ∧ A[j * 7 + 6]? = some (.string x.mc)
theorem cop1 {xs : List Mg} {k : Nat} {A : Array Value} {x : Mg} (h : Cop xs k A) (hx : xs[k]? = some x) :
    Cop xs (k + 1) ((((((((A).setIfInBounds (k * 7) (.int .i64 x.kd)).setIfInBounds (k * 7 + 1) (.int .i64 x.vw)).setIfInBounds (k * 7 + 2) (.int .i64 x.sq)).setIfInBounds (k * 7 + 3) (.int .i64 x.fr)).setIfInBounds (k * 7 + 4) (.string x.dg)).setIfInBounds (k * 7 + 5) (.string x.bd)).setIfInBounds (k * 7 + 6) (.string x.mc)) := by
  have hk := lt_at hx
  have hs := h.1
  refine ⟨by simpa using h.1, fun j y hj hy => ?_⟩
  simp only [Array.getElem?_setIfInBounds, Array.size_setIfInBounds]
  by_cases e : j = k
  · subst e
    rw [hx] at hy
    cases hy
    refine ⟨?_, ?_, ?_, ?_, ?_, ?_, ?_⟩
    all_goals (repeat' (first | rw [if_pos rfl, if_pos (by omega)] | rw [if_neg (by omega)]))
  · obtain ⟨h0, h1, h2, h3, h4, h5, h6⟩ := h.2 j y (by omega) hy
    refine ⟨?_, ?_, ?_, ?_, ?_, ?_, ?_⟩
    all_goals (repeat' rw [if_neg (by omega)])
    all_goals assumption
set_option maxRecDepth 100000 in
set_option maxHeartbeats 800000 in
theorem toS_any (v : Value) (xs : List Mg) (w : World) (h : Row w v xs) (hl : xs.length ≤ 1048576) :
    Calls Tryz.prog 20 #[v] w fun e w' => ∃ g, e = .returned (.slice (some ⟨g, 0, none⟩) xs.length xs.length) ∧ w.heap.size ≤ g ∧ g < w'.heap.size ∧ (∀ i x, xs[i]? = some x → E1 w' g (i * 7) x) ∧ Below w.heap.size w w' ∧ Wr w' g (xs.length * 7) := by
  have HR : Hid (Row w v xs) := h
  obtain ⟨a, cap, rfl⟩ := RowG.slice h
  clear h
  obtain ⟨i0, hi, hz0, hz1, hz2⟩ := info_parts info1
  have hmk := run_make (P := Tryz.prog) w 27 39 i0 (.agg #[.int .i64 0, .int .i64 0, .int .i64 0, .int .i64 0, .string ⟨#[]⟩, .string ⟨#[]⟩, .string ⟨#[]⟩]) Tryz.underlying27 hi hz0 .i64 .i64 (xs.length : Int) (xs.length : Int) (by omega) (by omega) (by rw [hz2]; omega) (by omega)
  have hA0 : Cop xs 0 (madeCells (Value.agg #[.int .i64 0, .int .i64 0, .int .i64 0, .int .i64 0, .string ⟨#[]⟩, .string ⟨#[]⟩, .string ⟨#[]⟩]).cells ((xs.length : Int).toNat * i0.size)) := ⟨by rw [hz1]; simp [madeCells, Value.cells], fun j x hj => absurd hj (by omega)⟩
  generalize madeCells (Value.agg #[.int .i64 0, .int .i64 0, .int .i64 0, .int .i64 0, .string ⟨#[]⟩, .string ⟨#[]⟩, .string ⟨#[]⟩]).cells ((xs.length : Int).toNat * i0.size) = A0 at hmk hA0
  rw [Int.toNat_natCast] at hmk
  go_enter Tryz.func20, Tryz.ntmps20
  go_wp2_with fail
  clear hmk
  go_loopw [4] (fun i wr => ∃ k : Nat, ∃ A : Array Value, k ≤ xs.length ∧ i = .int .i64 k ∧ Hid (wr.heap[w.heap.size]? = some (.cells A 39 (0, 0)) ∧ Cop xs k A ∧ Below w.heap.size w wr)) (fun i _ => xs.length - (intOf i).toNat)
  case atStart => exact ⟨0, A0, by omega, rfl, ⟨heap_alloc_new w _, hA0, bel_new _ _⟩⟩
  case round =>
    clear hA0
    obtain ⟨k, A, hk, rfl, HA⟩ := hrel
    by_cases hlt : k < xs.length
    · obtain ⟨x, hx⟩ := Rg.get_at hlt
      obtain ⟨b, off, rfl, hbl, c0, c1, c2, c3, c4, c5, c6⟩ := RowG.at (HR.out.below HA.out.2.2) rfl hx
      have HX : Hid (xs[k]? = some x) := hx
      clear hx
      go_wp2_with fail
      refine (to1_any x wr).mono ?_
      rintro e w2 ⟨rfl, b2⟩
      have hg := (Array.getElem?_eq_some_iff.1 HA.out.1).1
      have HA2 : Hid (w2.heap[w.heap.size]? = some (.cells A 39 (0, 0)) ∧ Cop xs k A ∧ Below w.heap.size w w2) := ⟨(b2.block _ hg).trans HA.out.1, HA.out.2.1, HA.out.2.2.trans (b2.mono HA.out.2.2.size)⟩
      clear b2 c0 c1 c2 c3 c4 c5 c6 HA
      have hsz : k * 7 + 6 < A.size := by rw [HA2.out.2.1.1]; omega
      obtain ⟨d0, f0⟩ := blk_cell HA2.out.1 (k * 7) (x := A[k * 7]) (Array.getElem?_eq_getElem (by omega))
      obtain ⟨d1, f1⟩ := blk_cell HA2.out.1 (k * 7 + 1) (x := A[k * 7 + 1]) (Array.getElem?_eq_getElem (by omega))
      obtain ⟨d2, f2⟩ := blk_cell HA2.out.1 (k * 7 + 2) (x := A[k * 7 + 2]) (Array.getElem?_eq_getElem (by omega))
      obtain ⟨d3, f3⟩ := blk_cell HA2.out.1 (k * 7 + 3) (x := A[k * 7 + 3]) (Array.getElem?_eq_getElem (by omega))
      obtain ⟨d4, f4⟩ := blk_cell HA2.out.1 (k * 7 + 4) (x := A[k * 7 + 4]) (Array.getElem?_eq_getElem (by omega))
      obtain ⟨d5, f5⟩ := blk_cell HA2.out.1 (k * 7 + 5) (x := A[k * 7 + 5]) (Array.getElem?_eq_getElem (by omega))
      obtain ⟨d6, f6⟩ := blk_cell HA2.out.1 (k * 7 + 6) (x := A[k * 7 + 6]) (Array.getElem?_eq_getElem (by omega))
      unfold oneV
      go_wp2_with fail
      refine ⟨⟨k + 1, (((((((A).setIfInBounds (k * 7) (.int .i64 x.kd)).setIfInBounds (k * 7 + 1) (.int .i64 x.vw)).setIfInBounds (k * 7 + 2) (.int .i64 x.sq)).setIfInBounds (k * 7 + 3) (.int .i64 x.fr)).setIfInBounds (k * 7 + 4) (.string x.dg)).setIfInBounds (k * 7 + 5) (.string x.bd)).setIfInBounds (k * 7 + 6) (.string x.mc), by omega, by go_num, ⟨(blk_set (blk_set (blk_set (blk_set (blk_set (blk_set (blk_set HA2.out.1 _ _) _ _) _ _) _ _) _ _) _ _) _ _), cop1 HA2.out.2.1 HX.out, ?_⟩⟩, by simp [intOf]; omega⟩
      exact (Below.setCell (Below.setCell (Below.setCell (Below.setCell (Below.setCell (Below.setCell (Below.setCell HA2.out.2.2 (p := ⟨w.heap.size, k * 7, none⟩) (Nat.le_refl _) (.int .i64 x.kd)) (p := ⟨w.heap.size, k * 7 + 1, none⟩) (Nat.le_refl _) (.int .i64 x.vw)) (p := ⟨w.heap.size, k * 7 + 2, none⟩) (Nat.le_refl _) (.int .i64 x.sq)) (p := ⟨w.heap.size, k * 7 + 3, none⟩) (Nat.le_refl _) (.int .i64 x.fr)) (p := ⟨w.heap.size, k * 7 + 4, none⟩) (Nat.le_refl _) (.string x.dg)) (p := ⟨w.heap.size, k * 7 + 5, none⟩) (Nat.le_refl _) (.string x.bd)) (p := ⟨w.heap.size, k * 7 + 6, none⟩) (Nat.le_refl _) (.string x.mc))
    · obtain rfl : k = xs.length := by omega
      go_wp2_with fail
      go_ret
      refine ⟨w.heap.size, rfl, Nat.le_refl _, (Array.getElem?_eq_some_iff.1 HA.out.1).1, fun i x hi => ?_, HA.out.2.2, ⟨A, _, HA.out.1, Nat.le_of_eq HA.out.2.1.1.symm⟩⟩
      obtain ⟨e0, e1, e2, e3, e4, e5, e6⟩ := HA.out.2.1.2 i x (lt_at hi) hi
      exact ⟨(Joins.cell_of_block HA.out.1 _).trans e0, (Joins.cell_of_block HA.out.1 _).trans e1, (Joins.cell_of_block HA.out.1 _).trans e2, (Joins.cell_of_block HA.out.1 _).trans e3, (Joins.cell_of_block HA.out.1 _).trans e4, (Joins.cell_of_block HA.out.1 _).trans e5, (Joins.cell_of_block HA.out.1 _).trans e6⟩
theorem toS_row {w' : World} {g : Nat} {xs : List Mg} (hg : g < w'.heap.size) (h : ∀ i x, xs[i]? = some x → E1 w' g (i * 7) x) : Row w' (.slice (some ⟨g, 0, none⟩) xs.length xs.length) xs :=
  ⟨_, _, rfl, .inr ⟨g, 0, rfl, Nat.le_refl _, hg, fun i x hi => by rw [Nat.zero_add]; exact h i x hi⟩⟩
set_option maxRecDepth 100000 in
set_option maxHeartbeats 800000 in
theorem eq1_same (x : Mg) (w : World) :
    Calls Tryz.prog 46 #[oneV x, oneV x] w fun e w' => e = .returned (.bool true) ∧ Below w.heap.size w w' := by
  unfold oneV
  have q0 : (x.kd != x.kd) = false := by simp
  have q1 : (x.vw != x.vw) = false := by simp
  have q2 : (x.sq != x.sq) = false := by simp
  have q3 : (x.fr != x.fr) = false := by simp
  have q4 : (x.dg.toList != x.dg.toList) = false := by simp
  have q5 : (x.bd.toList != x.bd.toList) = false := by simp
  have q6 : (x.mc.toList != x.mc.toList) = false := by simp
  have r4 : (x.dg.toList == x.dg.toList) = true := by simp
  have r5 : (x.bd.toList == x.bd.toList) = true := by simp
  have r6 : (x.mc.toList == x.mc.toList) = true := by simp
  go_enter Tryz.func46, Tryz.ntmps46
  go_wp2_with fail
  go_ret
  exact ⟨rfl, ((Below.refl _ _).alloc (Nat.le_refl _) _).alloc (by simp) _⟩
set_option maxRecDepth 100000 in
set_option maxHeartbeats 800000 in
theorem eqS_same (v u0 : Value) (xs : List Mg) (w : World) (h : Row w v xs) (g : Row w u0 xs) (hl : xs.length ≤ 1048576) :
    Calls Tryz.prog 23 #[v, u0] w fun e w' => e = .returned (.bool true) ∧ Below w.heap.size w w' := by
  have HR : Hid (Row w v xs) := h
  have HG : Hid (Row w u0 xs) := g
  obtain ⟨a, cap, rfl⟩ := RowG.slice h
  obtain ⟨a', cap', rfl⟩ := RowG.slice g
  clear h g
  have hne : ((xs.length : Int) != (xs.length : Int)) = false := by simp
  go_enter Tryz.func23, Tryz.ntmps23
  go_wp2_with fail
  go_loopw [5] (fun i wr => ∃ k : Nat, k ≤ xs.length ∧ i = .int .i64 k ∧ Hid (Below w.heap.size w wr)) (fun i _ => xs.length - (intOf i).toNat)
  case atStart => exact ⟨0, by omega, rfl, Below.refl _ _⟩
  case round =>
    obtain ⟨k, hk, rfl, HB⟩ := hrel
    by_cases hlt : k < xs.length
    · obtain ⟨x, hx⟩ := Rg.get_at hlt
      obtain ⟨b, off, rfl, hb, c0, c1, c2, c3, c4, c5, c6⟩ := RowG.at (HR.out.below HB.out) rfl hx
      obtain ⟨b', off', rfl, hb', d0, d1, d2, d3, d4, d5, d6⟩ := RowG.at (HG.out.below HB.out) rfl hx
      have HK : Hid (xs[k]? = some x) := hx
      clear hx
      have hp0 : (0 : Int) ≤ (k : Int) := by omega
      have hp1 : (k : Int) < (xs.length : Int) := by omega
      go_upto_region 6 with fail
      obtain ⟨X, hX, W, QI0, QO0⟩ := Qc.klass wr
      have QI : Hid (∀ w', Below wr.heap.size wr w' → ∃ x, w' = W x) := QI0
      have QO : Hid (∀ x, Below wr.heap.size wr (W x)) := QO0
      clear QI0 QO0
      have y0 := Qc.cell_all QO.out c0
      have z0 := Qc.cell_all QO.out d0
      have y1 := Qc.cell_all QO.out c1
      have z1 := Qc.cell_all QO.out d1
      have y2 := Qc.cell_all QO.out c2
      have z2 := Qc.cell_all QO.out d2
      have y3 := Qc.cell_all QO.out c3
      have z3 := Qc.cell_all QO.out d3
      have y4 := Qc.cell_all QO.out c4
      have z4 := Qc.cell_all QO.out d4
      have y5 := Qc.cell_all QO.out c5
      have z5 := Qc.cell_all QO.out d5
      have y6 := Qc.cell_all QO.out c6
      have z6 := Qc.cell_all QO.out d6
      refine Qc.region_class (W := W) (by kernel_rfl) (by kernel_rfl) (QI.out _ Qc.from_drew) ?_
      repeat (go_big_quiet_step (first | (go_at_call 46; refine (eq1_same x _).mono ?_; rintro e w2 ⟨rfl, b2⟩; exact ⟨rfl, Qc.back QI.out QO.out b2⟩)))
      refine wpQuiet_nil ?_
      rintro _ ⟨xq, rfl⟩
      have G2 : Hid (Below w.heap.size w (W xq)) := HB.out.trans ((QO.out xq).mono HB.out.size)
      generalize W xq = wq at G2 ⊢
      go_wp2_with fail
      exact ⟨⟨k + 1, by omega, by go_num, G2⟩, by simp [intOf]; omega⟩
    · go_wp2_with fail
      go_ret
      exact ⟨rfl, HB.out⟩
set_option maxRecDepth 100000 in
set_option maxHeartbeats 1600000 in
theorem markS_any (g n cap : Nat) (a : Nat) (B C : Nat) (w : World) (h : Wr w g (n * 7)) (hB : B ≤ g) (hC : g < C) (hn : n ≤ 1048576) (ha : a ≤ 1000000000000) (ha0 : 0 < a) :
    Calls Tryz.prog 24 #[.slice (some ⟨g, 0, none⟩) n cap, .int .i64 a] w fun e w' => ∃ r : Nat, e = .returned (.int .i64 (r : Int)) ∧ r ≤ a + n * 7 ∧ 0 < r ∧ Mid B C w w' := by
  have H : Hid (Wr w g (n * 7)) := h
  clear h
  go_enter Tryz.func24, Tryz.ntmps24
  go_wp2_with fail
  go_loopw [1, 5] (fun k i wr => ∃ q r : Nat, q ≤ n ∧ k = .int .i64 (r : Int) ∧ 0 < r ∧ r ≤ a + q * 7 ∧ i = .int .i64 q ∧ Hid (Wr wr g (n * 7) ∧ Mid B C w wr)) (fun _ i _ => n - (intOf i).toNat)
  case atStart => exact ⟨0, a, by omega, rfl, ha0, by omega, rfl, H.out, Mid.refl _ _ _⟩
  case round =>
    obtain ⟨q, r, hq, rfl, hr0, hr, rfl, HA⟩ := hrel
    by_cases hlt : q < n
    · have hsz : q * 7 + 6 < n * 7 := by omega
      obtain ⟨⟨x0, c0⟩, f0⟩ := HA.out.1.cell (j := q * 7) (by omega)
      obtain ⟨⟨x1, c1⟩, f1⟩ := HA.out.1.cell (j := q * 7 + 1) (by omega)
      obtain ⟨⟨x2, c2⟩, f2⟩ := HA.out.1.cell (j := q * 7 + 2) (by omega)
      obtain ⟨⟨x3, c3⟩, f3⟩ := HA.out.1.cell (j := q * 7 + 3) (by omega)
      have HC : Hid (Wr ((((wr.setCell ⟨g, q * 7, none⟩ (.int .i64 ((r : Int)))).setCell ⟨g, q * 7 + 1, none⟩ (.int .i64 ((r : Int) + 1))).setCell ⟨g, q * 7 + 2, none⟩ (.int .i64 ((r : Int) + 1 + 1))).setCell ⟨g, q * 7 + 3, none⟩ (.int .i64 ((r : Int) + 1 + 1 + 1))) g (n * 7) ∧ Mid B C w ((((wr.setCell ⟨g, q * 7, none⟩ (.int .i64 ((r : Int)))).setCell ⟨g, q * 7 + 1, none⟩ (.int .i64 ((r : Int) + 1))).setCell ⟨g, q * 7 + 2, none⟩ (.int .i64 ((r : Int) + 1 + 1))).setCell ⟨g, q * 7 + 3, none⟩ (.int .i64 ((r : Int) + 1 + 1 + 1)))) := ⟨((((HA.out.1.set _ _ _).set _ _ _).set _ _ _).set _ _ _), ((((HA.out.2.trans (Mid.set hB hC _ _)).trans (Mid.set hB hC _ _)).trans (Mid.set hB hC _ _)).trans (Mid.set hB hC _ _))⟩
      go_wp2_with fail
      generalize ((((wr.setCell ⟨g, q * 7, none⟩ (.int .i64 ((r : Int)))).setCell ⟨g, q * 7 + 1, none⟩ (.int .i64 ((r : Int) + 1))).setCell ⟨g, q * 7 + 2, none⟩ (.int .i64 ((r : Int) + 1 + 1))).setCell ⟨g, q * 7 + 3, none⟩ (.int .i64 ((r : Int) + 1 + 1 + 1))) = v0 at HC ⊢
      clear HA c0 f0 c1 f1 c2 f2 c3 f3
      obtain ⟨r0, HR0⟩ : ∃ r0 : Nat, Hid (r + 4 = r0) := ⟨_, rfl⟩
      have ER : Hid ((r : Int) + 1 + 1 + 1 + 1 = (r0 : Int)) := by show _ = _; have := HR0.out; omega
      rw [ER.out]
      have l0 : 0 < r0 ∧ r0 ≤ a + q * 7 + 4 := by have := HR0.out; omega
      refine (markText_any r0 v0 l0.1 (by omega)).mono ?_
      rintro e u0 ⟨rfl, b0⟩
      have HD0 : Hid (Wr u0 g (n * 7) ∧ Mid B C w u0) := ⟨HC.out.1.below b0, HC.out.2.trans (Mid.of_below b0)⟩
      generalize mtext r0 = mt0
      obtain ⟨⟨y0, d0⟩, g0⟩ := HD0.out.1.cell (j := q * 7 + 4) (by omega)
      have HE : Hid (Wr (u0.setCell ⟨g, q * 7 + 4, none⟩ (.string mt0)) g (n * 7) ∧ Mid B C w (u0.setCell ⟨g, q * 7 + 4, none⟩ (.string mt0))) := ⟨HD0.out.1.set _ _ _, HD0.out.2.trans (Mid.set hB hC _ _)⟩
      clear HC b0
      go_wp2_with fail
      generalize u0.setCell ⟨g, q * 7 + 4, none⟩ (.string mt0) = v1 at HE ⊢
      have HC := HE
      clear HE HD0 d0 g0 ER
      obtain ⟨r1, HR1⟩ : ∃ r1 : Nat, Hid (r0 + 1 = r1) := ⟨_, rfl⟩
      have ER : Hid ((r0 : Int) + 1 = (r1 : Int)) := by show _ = _; have := HR1.out; omega
      rw [ER.out]
      have l1 : 0 < r1 ∧ r1 ≤ a + q * 7 + 5 := by have := HR1.out; omega
      refine (markText_any r1 v1 l1.1 (by omega)).mono ?_
      rintro e u1 ⟨rfl, b1⟩
      have HD1 : Hid (Wr u1 g (n * 7) ∧ Mid B C w u1) := ⟨HC.out.1.below b1, HC.out.2.trans (Mid.of_below b1)⟩
      generalize mtext r1 = mt1
      obtain ⟨⟨y1, d1⟩, g1⟩ := HD1.out.1.cell (j := q * 7 + 5) (by omega)
      have HE : Hid (Wr (u1.setCell ⟨g, q * 7 + 5, none⟩ (.string mt1)) g (n * 7) ∧ Mid B C w (u1.setCell ⟨g, q * 7 + 5, none⟩ (.string mt1))) := ⟨HD1.out.1.set _ _ _, HD1.out.2.trans (Mid.set hB hC _ _)⟩
      clear HC b1
      go_wp2_with fail
      generalize u1.setCell ⟨g, q * 7 + 5, none⟩ (.string mt1) = v2 at HE ⊢
      have HC := HE
      clear HE HD1 d1 g1 ER
      obtain ⟨r2, HR2⟩ : ∃ r2 : Nat, Hid (r1 + 1 = r2) := ⟨_, rfl⟩
      have ER : Hid ((r1 : Int) + 1 = (r2 : Int)) := by show _ = _; have := HR2.out; omega
      rw [ER.out]
      have l2 : 0 < r2 ∧ r2 ≤ a + q * 7 + 6 := by have := HR2.out; omega
      refine (markText_any r2 v2 l2.1 (by omega)).mono ?_
      rintro e u2 ⟨rfl, b2⟩
      have HD2 : Hid (Wr u2 g (n * 7) ∧ Mid B C w u2) := ⟨HC.out.1.below b2, HC.out.2.trans (Mid.of_below b2)⟩
      generalize mtext r2 = mt2
      obtain ⟨⟨y2, d2⟩, g2⟩ := HD2.out.1.cell (j := q * 7 + 6) (by omega)
      have HE : Hid (Wr (u2.setCell ⟨g, q * 7 + 6, none⟩ (.string mt2)) g (n * 7) ∧ Mid B C w (u2.setCell ⟨g, q * 7 + 6, none⟩ (.string mt2))) := ⟨HD2.out.1.set _ _ _, HD2.out.2.trans (Mid.set hB hC _ _)⟩
      clear HC b2
      go_wp2_with fail
      exact ⟨⟨q + 1, r2 + 1, by omega, by go_num, by omega, by omega, by go_num, HE⟩, by simp [intOf]; omega⟩
    · obtain rfl : q = n := by omega
      go_wp2_with fail
      go_ret
      exact ⟨r, rfl, hr, hr0, HA.out.2⟩
end Go.Proofs.YtddmdnljfnimbaaGreatDoor.Gm
namespace Go.Proofs.YtddmdnljfnimbaaGreatDoor.Op
open Go.ChangeShapes Go.WideShapes Go.ChangeAt Go.RowKit Go.Deep Go.Proofs.YtddmdnljfnimbaaGreatDoor.Rg Go.Proofs.YtddmdnljfnimbaaGreatDoor.Gm
set_option maxRecDepth 100000 in
theorem openGm {H : Type} {enc : TypeId × Value → H} {w : World} {base : Nat} {spare : Nat → Bool} {held : Bool} {fuel : Nat} {cs : List Value} {y : DataW H × List MemPlace} (hf : DataW.trod enc Tryz.prog w base spare held fuel 22 cs = some y) :
    ∃ v xs, cs = [v] ∧ Gm.Row w v xs ∧ xs.length ≤ maxLen ∧ ∀ x ∈ xs, Gm.Tz maxLen x := by
  have k1 : Tryz.prog.cellsOf 3 = 1 := by kernel_rfl
  have k2 : Tryz.prog.cellsOf 9 = 1 := by kernel_rfl
  refine open_rows Tryz.underlying22 (c := 7) (by kernel_rfl) (by decide) (fun n cs b o y hl hc ht => ?_) hf
  obtain ⟨xs, k, hk, _, _, hxl, hff⟩ := DataW.trod_struct Tryz.underlying34 ht
  match cs, hl with
  | [v0, v1, v2, v3, v4, v5, v6], _ =>
    match xs, hxl with
    | [y0, y1, y2, y3, y4, y5, y6], _ =>
      have g0 := hff 0 _ rfl
      have g1 := hff 1 _ rfl
      have g2 := hff 2 _ rfl
      have g3 := hff 3 _ rfl
      have g4 := hff 4 _ rfl
      have g5 := hff 5 _ rfl
      have g6 := hff 6 _ rfl
      simp [k1, k2] at g0 g1 g2 g3 g4 g5 g6
      obtain ⟨z0, q0, _, _⟩ := DataW.trod_int Tryz.underlying3 g0
      obtain ⟨z1, q1, _, _⟩ := DataW.trod_int Tryz.underlying3 g1
      obtain ⟨z2, q2, _, _⟩ := DataW.trod_int Tryz.underlying3 g2
      obtain ⟨z3, q3, _, _⟩ := DataW.trod_int Tryz.underlying3 g3
      obtain ⟨z4, q4, _, m4⟩ := DataW.trod_string Tryz.underlying9 g4
      obtain ⟨z5, q5, _, m5⟩ := DataW.trod_string Tryz.underlying9 g5
      obtain ⟨z6, q6, _, m6⟩ := DataW.trod_string Tryz.underlying9 g6
      simp at q0 q1 q2 q3 q4 q5 q6
      subst q0 q1 q2 q3 q4 q5 q6
      exact ⟨⟨z0, z1, z2, z3, z4, z5, z6⟩, ⟨cell_eq hc 0 (by decide) rfl, cell_eq hc 1 (by decide) rfl, cell_eq hc 2 (by decide) rfl, cell_eq hc 3 (by decide) rfl, cell_eq hc 4 (by decide) rfl, cell_eq hc 5 (by decide) rfl, cell_eq hc 6 (by decide) rfl⟩, m4, m5, m6⟩
end Go.Proofs.YtddmdnljfnimbaaGreatDoor.Op
