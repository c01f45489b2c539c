/- Readings in a slice: read, measured, copied, compared. -/
import Derived.Test.YtabmbmligklhoabDoorTz
import Derived.Deep.Slices
import Derived.Deep.Fields23
import Derived.OpenShut
import Derived.Deep.RegionLaw
import Derived.BigRegion
namespace Go.Proofs.YtabmbmligklhoabDoor.Rw
open Go.RowKit Go.Proofs.YtabmbmligklhoabDoor.Sl Go.Proofs.YtabmbmligklhoabDoor.Ap Go.Proofs.YtabmbmligklhoabDoor.Tx

/-- A reading. -/
structure Rd where
  f : Int
  x : Int
  m : ByteArray
instance : Inhabited Rd := ⟨⟨0, 0, ⟨#[]⟩⟩⟩
def rn (rs : List Rd) (i : Nat) : Rd := rs.getD i ⟨0, 0, ⟨#[]⟩⟩
theorem rn_at {rs : List Rd} {i : Nat} (h : i < rs.length) : rs[i]? = some (rn rs i) := by
  unfold rn; rw [List.getD_eq_getElem?_getD, List.getElem?_eq_getElem h]; rfl
theorem rn_mem {rs : List Rd} {i : Nat} (h : i < rs.length) : rn rs i ∈ rs := List.mem_of_getElem? (rn_at h)
/-- The cells from off on in block b are those of the readings rs. -/
def CellsR (w : World) (b off : Nat) (rs : List Rd) : Prop :=
  ∀ i, i < rs.length → w.cell? ⟨b, off + i * 3, none⟩ = some (.int .i64 (rn rs i).f) ∧ w.cell? ⟨b, off + i * 3 + 1, none⟩ = some (.int .i64 (rn rs i).x) ∧ w.cell? ⟨b, off + i * 3 + 2, none⟩ = some (.string (rn rs i).m)
/-- The slice v holds the readings rs. -/
def RowR (w : World) (v : Value) (rs : List Rd) : Prop :=
  ∃ a cap, v = .slice a rs.length cap ∧ (rs = [] ∨ ∃ b off, a = some ⟨b, off, none⟩ ∧ rs.length ≤ cap ∧ b < w.heap.size ∧ CellsR w b off rs)
theorem CellsR.below {w w' : World} {b off : Nat} {rs : List Rd} (h : CellsR w b off rs) (hb : Below w.heap.size w w') (hlt : b < w.heap.size) : CellsR w' b off rs := fun i hi => by
  obtain ⟨h1, h2, h3⟩ := h i hi
  exact ⟨(hb.cell (p := ⟨b, _, none⟩) hlt).trans h1, (hb.cell (p := ⟨b, _, none⟩) hlt).trans h2, (hb.cell (p := ⟨b, _, none⟩) hlt).trans h3⟩
theorem RowR.below {w w' : World} {v : Value} {rs : List Rd} (h : RowR w v rs) (hb : Below w.heap.size w w') : RowR w' v rs := by
  obtain ⟨a, cap, rfl, h⟩ := h
  refine ⟨a, cap, rfl, ?_⟩
  rcases h with h | ⟨b, off, rfl, hc, hlt, h⟩
  · exact .inl h
  · exact .inr ⟨b, off, rfl, hc, Nat.lt_of_lt_of_le hlt hb.size, h.below hb hlt⟩
theorem ret_i {a b : Int} (h : a = b) : Ending.returned (.int .i64 a) = .returned (.int .i64 b) := by rw [h]
def SzOk (r : Int) (l s : Nat) : Prop := r = -1 ∨ ∃ q : Nat, r = q ∧ q ≤ l ∧ s ≤ l
set_option maxRecDepth 100000 in
set_option maxHeartbeats 400000 in
theorem szReading_any (f x : Int) (m : ByteArray) (l : Nat) (w : World) (hl : l ≤ 1048576) (hm : m.size ≤ maxLen) :
    Calls Tryd.prog 31 #[.agg #[.int .i64 f, .int .i64 x, .string m], .int .i64 l] w fun e w' => (∃ r : Int, e = .returned (.int .i64 r) ∧ SzOk r l m.size) ∧ Below w.heap.size w w' := by
  have hm2 : m.size ≤ 9223372036854775807 := by unfold maxLen at hm; omega
  clear hm
  by_cases h : m.size ≤ l
  · have h' : ¬ (l : Int) - (m.size : Int) < 0 := by omega
    go_enter Tryd.func31, Tryd.ntmps31
    go_wp2_with fail
    go_ret
    exact ⟨⟨_, rfl, .inr ⟨l - m.size, by omega, Nat.sub_le _ _, h⟩⟩, bel_new _ _⟩
  · have h' : (l : Int) - (m.size : Int) < 0 := by omega
    go_enter Tryd.func31, Tryd.ntmps31
    go_wp2_with fail
    go_ret
    exact ⟨⟨_, rfl, .inl rfl⟩, bel_new _ _⟩
set_option maxRecDepth 100000 in
set_option maxHeartbeats 400000 in
theorem szReadingS_any (v : Value) (rs : List Rd) (w : World) (h : RowR w v rs) (hm : ∀ r ∈ rs, r.m.size ≤ maxLen) (hz : rs.length ≤ maxLen) :
    Calls Tryd.prog 15 #[v, .int .i64 1048576] w fun e w' => (∃ r : Int, e = .returned (.int .i64 r) ∧ ((r = -1) ∨ (∃ q : Nat, r = q ∧ rs.length ≤ 1048576 ∧ ∀ r ∈ rs, r.m.size ≤ 1048576))) ∧ Below w.heap.size w w' := by
  have hz2 : rs.length ≤ 9223372036854775807 := by unfold maxLen at hz; omega
  have HM : Hid (∀ r ∈ rs, r.m.size ≤ maxLen) := hm
  have HR : Hid (RowR w v rs) := h
  obtain ⟨a, cap, rfl, _⟩ := h
  clear hz hm
  by_cases hb : 1048576 < rs.length
  · have hb' : (1048576 : Int) - (rs.length : Int) < 0 := by omega
    go_enter Tryd.func15, Tryd.ntmps15
    go_wp2_with fail
    go_ret
    exact ⟨⟨_, rfl, .inl rfl⟩, Below.refl _ _⟩
  have hb' : ¬ (1048576 : Int) - (rs.length : Int) < 0 := by omega
  go_enter Tryd.func15, Tryd.ntmps15
  go_wp2_with fail
  go_loopw [1, 5] (fun l i wr => ∃ (k q : Nat), k ≤ rs.length ∧ i = .int .i64 k ∧ l = .int .i64 q ∧ q ≤ 1048576 ∧ Hid (∀ j, j < k → (rn rs j).m.size ≤ 1048576) ∧ Hid (Below w.heap.size w wr)) (fun _ i _ => rs.length - (intOf i).toNat)
  case atStart => exact ⟨0, 1048576 - rs.length, by omega, rfl, by congr 1; omega, by omega, fun j hj => by omega, Below.refl _ _⟩
  case round =>
    obtain ⟨k, q, hk, rfl, rfl, hq, HJ, HB⟩ := hrel
    by_cases hlt : k < rs.length
    · obtain ⟨a', cap', he, hc⟩ := HR.out.below HB.out
      rcases hc with hc | ⟨b, off, rfl, _, hbl, hcell⟩
      · exact absurd hlt (by rw [hc]; simp)
      cases he
      obtain ⟨c0, c1, c2⟩ := hcell k hlt
      have HMk : Hid ((rn rs k).m.size ≤ maxLen) := HM.out _ (rn_mem hlt)
      clear hcell
      go_wp2_with fail
      refine (szReading_any _ _ _ q wr hq HMk.out).mono ?_
      rintro e w2 ⟨⟨r, rfl, hr⟩, b2⟩
      have HB2 : Hid (Below w.heap.size w w2) := HB.out.trans (b2.mono HB.out.size)
      clear b2
      rcases hr with rfl | ⟨p, rfl, hp, hs⟩
      · go_wp2_with fail
        go_ret
        exact ⟨⟨_, rfl, .inl rfl⟩, HB2.out⟩
      · have HJ2 : Hid (∀ j, j < k + 1 → (rn rs j).m.size ≤ 1048576) := fun j hj => by
          by_cases e : j = k
          · rw [e]; omega
          · exact HJ.out j (by omega)
        have hp0 : ¬ (p : Int) < 0 := by omega
        go_wp2_with fail
        exact ⟨⟨k + 1, p, by omega, by go_num, rfl, by omega, HJ2, HB2⟩, by simp [intOf]; omega⟩
    · obtain rfl : k = rs.length := by omega
      go_wp2_with fail
      go_ret
      refine ⟨⟨_, rfl, .inr ⟨q, rfl, by omega, fun r hr => ?_⟩⟩, HB.out⟩
      obtain ⟨j, hj, rfl⟩ := List.mem_iff_getElem.1 hr
      have := HJ.out j hj
      unfold rn at this
      rwa [List.getD_eq_getElem?_getD, List.getElem?_eq_getElem hj] at this
set_option maxRecDepth 100000 in
set_option maxHeartbeats 400000 in
theorem toReading_any (f x : Int) (m : ByteArray) (w : World) :
    Calls Tryd.prog 32 #[.agg #[.int .i64 f, .int .i64 x, .string m]] w fun e w' => e = .returned (.agg #[.int .i64 f, .int .i64 x, .string m]) ∧ Below w.heap.size w w' := by
  go_enter Tryd.func32, Tryd.ntmps32
  go_wp2_with fail
  refine bodyPost_ret (v := .agg #[.int .i64 f, .int .i64 x, .string m]) (by simp [results, Tryd.results32, go_sem]) rfl ⟨rfl, ?_⟩
  exact (((Below.refl _ _).alloc (Nat.le_refl _) _).alloc (by simp) _).alloc (by simp; omega) _
set_option maxRecDepth 100000 in
set_option maxHeartbeats 400000 in
theorem eqReading_same (f x : Int) (m : ByteArray) (w : World) :
    Calls Tryd.prog 33 #[.agg #[.int .i64 f, .int .i64 x, .string m], .agg #[.int .i64 f, .int .i64 x, .string m]] w fun e w' => e = .returned (.bool true) ∧ Below w.heap.size w w' := by
  have hne : (m.toList == m.toList) = true := by simp
  go_enter Tryd.func33, Tryd.ntmps33
  go_wp2_with fail
  go_ret
  exact ⟨rfl, ((Below.refl _ _).alloc (Nat.le_refl _) _).alloc (by simp) _⟩
theorem info3r : (Tryd.prog.info? 32).map (fun i => (i.zero, i.size, i.bytes)) = some (some (.agg #[.int .i64 0, .int .i64 0, .string ⟨#[]⟩]), 3, 32) := by kernel_rfl
/-- The copy: the cells of its first k readings are written. -/
def Cop (rs : List Rd) (k : Nat) (A : Array Value) : Prop := A.size = rs.length * 3 ∧ ∀ j, j < k → A[j * 3]? = some (.int .i64 (rn rs j).f) ∧ A[j * 3 + 1]? = some (.int .i64 (rn rs j).x) ∧ A[j * 3 + 2]? = some (.string (rn rs j).m)
theorem cop_step {rs : List Rd} {k : Nat} {A : Array Value} (h : Cop rs k A) (hk : k < rs.length) :
    Cop rs (k + 1) (((A.setIfInBounds (k * 3) (.int .i64 (rn rs k).f)).setIfInBounds (k * 3 + 1) (.int .i64 (rn rs k).x)).setIfInBounds (k * 3 + 2) (.string (rn rs k).m)) := by
  refine ⟨by simpa using h.1, fun j hj => ?_⟩
  have hs := h.1
  simp only [Array.getElem?_setIfInBounds, Array.size_setIfInBounds]
  by_cases e : j = k
  · subst e
    refine ⟨?_, ?_, ?_⟩
    · rw [if_neg (by omega), if_neg (by omega), if_pos rfl, if_pos (by omega)]
    · rw [if_neg (by omega), if_pos rfl, if_pos (by omega)]
    · rw [if_pos rfl, if_pos (by omega)]
  · obtain ⟨h1, h2, h3⟩ := h.2 j (by omega)
    refine ⟨?_, ?_, ?_⟩
    · rw [if_neg (by omega), if_neg (by omega), if_neg (by omega)]; exact h1
    · rw [if_neg (by omega), if_neg (by omega), if_neg (by omega)]; exact h2
    · rw [if_neg (by omega), if_neg (by omega), if_neg (by omega)]; exact h3
set_option maxRecDepth 100000 in
set_option maxHeartbeats 800000 in
theorem toReadingS_any (v : Value) (rs : List Rd) (w : World) (h : RowR w v rs) (hl : rs.length ≤ 1048576) :
    Calls Tryd.prog 16 #[v] w fun e w' => ∃ v', e = .returned v' ∧ RowR w' v' rs ∧ Below w.heap.size w w' := by
  have HR : Hid (RowR w v rs) := h
  obtain ⟨a, cap, rfl, _⟩ := h
  obtain ⟨i0, hi, hz0, hz1, hz2⟩ := info_parts info3r
  have hmk := run_make (P := Tryd.prog) w 27 32 i0 (.agg #[.int .i64 0, .int .i64 0, .string ⟨#[]⟩]) Tryd.underlying27 hi hz0 .i64 .i64 (rs.length : Int) (rs.length : Int) (by omega) (by omega) (by rw [hz2]; omega) (by omega)
  have hA0 : Cop rs 0 (madeCells (Value.agg #[.int .i64 0, .int .i64 0, .string ⟨#[]⟩]).cells ((rs.length : Int).toNat * i0.size)) := ⟨by rw [hz1]; simp [madeCells, Value.cells], fun j hj => absurd hj (by omega)⟩
  generalize madeCells (Value.agg #[.int .i64 0, .int .i64 0, .string ⟨#[]⟩]).cells ((rs.length : Int).toNat * i0.size) = A0 at hmk hA0
  rw [Int.toNat_natCast] at hmk
  go_enter Tryd.func16, Tryd.ntmps16
  go_wp2_with fail
  clear hmk
  go_loopw [4] (fun i wr => ∃ k : Nat, ∃ A : Array Value, k ≤ rs.length ∧ i = .int .i64 k ∧ Hid (wr.heap[w.heap.size]? = some (.cells A 32 (0, 0)) ∧ Cop rs k A ∧ Below w.heap.size w wr)) (fun i _ => rs.length - (intOf i).toNat)
  case atStart => exact ⟨0, A0, by omega, rfl, ⟨heap_alloc_new w _, hA0, bel_new _ _⟩⟩
  case round =>
    clear hA0
    obtain ⟨k, A, hk, rfl, HA⟩ := hrel
    by_cases hlt : k < rs.length
    · obtain ⟨a', cap', he, hc⟩ := HR.out.below HA.out.2.2
      rcases hc with hc | ⟨b, off, rfl, _, hbl, hcell⟩
      · exact absurd hlt (by rw [hc]; simp)
      cases he
      obtain ⟨c0, c1, c2⟩ := hcell k hlt
      clear hcell
      go_wp2_with fail
      refine (toReading_any _ _ _ wr).mono ?_
      rintro e w2 ⟨rfl, b2⟩
      have hg := (Array.getElem?_eq_some_iff.1 HA.out.1).1
      have HA2 : Hid (w2.heap[w.heap.size]? = some (.cells A 32 (0, 0)) ∧ Cop rs k A ∧ Below w.heap.size w w2) := ⟨(b2.block _ hg).trans HA.out.1, HA.out.2.1, HA.out.2.2.trans (b2.mono HA.out.2.2.size)⟩
      clear b2 c0 c1 c2 HA
      have hsz : k * 3 + 2 < A.size := by rw [HA2.out.2.1.1]; omega
      obtain ⟨d0, f0⟩ := blk_cell HA2.out.1 (k * 3) (x := A[k * 3]) (Array.getElem?_eq_getElem (by omega))
      obtain ⟨d1, f1⟩ := blk_cell HA2.out.1 (k * 3 + 1) (x := A[k * 3 + 1]) (Array.getElem?_eq_getElem (by omega))
      obtain ⟨d2, f2⟩ := blk_cell HA2.out.1 (k * 3 + 2) (x := A[k * 3 + 2]) (Array.getElem?_eq_getElem (by omega))
      go_wp2_with fail
      refine ⟨⟨k + 1, ((A.setIfInBounds (k * 3) (.int .i64 (rn rs k).f)).setIfInBounds (k * 3 + 1) (.int .i64 (rn rs k).x)).setIfInBounds (k * 3 + 2) (.string (rn rs k).m), by omega, by go_num, ⟨blk_set (blk_set (blk_set HA2.out.1 _ _) _ _) _ _, cop_step HA2.out.2.1 hlt, ?_⟩⟩, by simp [intOf]; omega⟩
      have h := HA2.out.2.2
      refine ⟨h.os, h.tape, h.output, by simpa using h.size, fun q hq => ?_⟩
      rw [blk_far (by omega), blk_far (by omega), blk_far (by omega)]
      exact h.block q hq
    · obtain rfl : k = rs.length := by omega
      go_wp2_with fail
      go_ret
      refine ⟨_, rfl, ⟨_, _, rfl, .inr ⟨w.heap.size, 0, rfl, Nat.le_refl _, (Array.getElem?_eq_some_iff.1 HA.out.1).1, fun i hi => ?_⟩⟩, HA.out.2.2⟩
      obtain ⟨e0, e1, e2⟩ := HA.out.2.1.2 i hi
      rw [Nat.zero_add]
      exact ⟨(Joins.cell_of_block HA.out.1 _).trans e0, (Joins.cell_of_block HA.out.1 _).trans e1, (Joins.cell_of_block HA.out.1 _).trans e2⟩
set_option maxRecDepth 100000 in
set_option maxHeartbeats 400000 in
theorem eqReadingS_same (v u : Value) (rs : List Rd) (w : World) (h : RowR w v rs) (g : RowR w u rs) (hl : rs.length ≤ 1048576) :
    Calls Tryd.prog 17 #[v, u] w fun e w' => e = .returned (.bool true) ∧ Below w.heap.size w w' := by
  have HR : Hid (RowR w v rs) := h
  have HG : Hid (RowR w u rs) := g
  obtain ⟨a, cap, rfl, _⟩ := h
  obtain ⟨c, dap, rfl, _⟩ := g
  have hne : ((rs.length : Int) != (rs.length : Int)) = false := by simp
  go_enter Tryd.func17, Tryd.ntmps17
  go_wp2_with fail
  go_loopw [5] (fun i wr => ∃ k : Nat, k ≤ rs.length ∧ i = .int .i64 k ∧ Hid (Below w.heap.size w wr)) (fun i _ => rs.length - (intOf i).toNat)
  case atStart => exact ⟨0, by omega, rfl, Below.refl _ _⟩
  case round =>
    obtain ⟨k, hk, rfl, HB⟩ := hrel
    by_cases hlt : k < rs.length
    · obtain ⟨a', cap', he, hc⟩ := HR.out.below HB.out
      rcases hc with hc | ⟨b, off, rfl, _, hbl, hcell⟩
      · exact absurd hlt (by rw [hc]; simp)
      cases he
      obtain ⟨c0, c1, c2⟩ := hcell k hlt
      obtain ⟨a'', cap'', he, hc'⟩ := HG.out.below HB.out
      rcases hc' with hc' | ⟨b', off', rfl, _, hbl', hcell'⟩
      · exact absurd hlt (by rw [hc']; simp)
      cases he
      obtain ⟨d0, d1, d2⟩ := hcell' k hlt
      clear hcell hcell'
      have hp0 : (0 : Int) ≤ (k : Int) := by omega
      have hp1 : (k : Int) < (rs.length : Int) := by omega
      go_wp2_with fail
      go_region_law (go_simp; go_at_call 33; refine (eqReading_same _ _ _ _).mono ?_; rintro e w3 ⟨rfl, b3⟩; have g3 := (ordB rfl b3).1; clear b3; try go_simp)
      all_goals
        go_wp2_with fail
        exact ⟨⟨k + 1, by omega, by go_num, HB.out.trans (g3.mono HB.out.size)⟩, by simp [intOf]; omega⟩
    · go_wp2_with fail
      go_ret
      exact ⟨rfl, HB.out⟩
end Go.Proofs.YtabmbmligklhoabDoor.Rw
namespace Go.Proofs.YtabmbmligklhoabDoor.Op
open Go.ChangeShapes Go.WideShapes Go.ChangeAt Go.RowKit Go.Deep
set_option maxRecDepth 100000 in
theorem open_reads {H : Type} {enc : TypeId × Value → H} {w : World} {base : Nat} {spare : Nat → Bool} {r : Reach} {b0 : Nat} {v : Value} {d : DataW H} {p : List MemPlace}
    (hv : Value.okWide Tryd.prog w r b0 37 v) (h : DataW.Trod enc Tryd.prog w base spare true 37 v d p) :
    ∃ rs : List Rw.Rd, Rw.RowR w v rs ∧ rs.length ≤ maxLen ∧ ∀ x ∈ rs, x.m.size ≤ maxLen := by
  obtain ⟨a0, len0, cap0, rfl⟩ := okWide_slice Tryd.underlying37 hv
  obtain ⟨fuel, hf⟩ := h
  rcases open_slice Tryd.underlying37 hf with ⟨hcs, _⟩ | ⟨x, l, c, m, n, D, Pl, hcs, _, hl, hm, hmm, _, hcell⟩
  · simp [Value.cells] at hcs
    obtain ⟨rfl, rfl, rfl⟩ := hcs
    exact ⟨[], ⟨none, 0, rfl, .inl rfl⟩, by simp, fun _ hx => by cases hx⟩
  · simp [Value.cells] at hcs
    obtain ⟨rfl, rfl, rfl⟩ := hcs
    have hlm : len0 ≤ m := by rw [hmm]; split <;> omega
    have ce : Tryd.prog.cellsOf 55 = 3 := by kernel_rfl
    have each : ∀ i, i < len0 → ∃ q : Rw.Rd, w.cell? (x.add (i * 3)) = some (.int .i64 q.f) ∧ w.cell? (x.add (i * 3 + 1)) = some (.int .i64 q.x) ∧ w.cell? (x.add (i * 3 + 2)) = some (.string q.m) ∧ q.m.size ≤ maxLen := by
      intro i hi
      obtain ⟨cs', h1, h2⟩ := hcell i (by omega)
      rw [ce] at h1
      obtain ⟨_, hlen, hc⟩ := World.cells?_some h1
      obtain ⟨xs, k, hk, hxy, _, hxl, hff⟩ := DataW.trod_struct Tryd.underlying55 h2
      match cs', hlen with
      | [v0, v1, v2], _ =>
        have e0 := hc 0 (by omega)
        have e1 := hc 1 (by omega)
        have e2 := hc 2 (by omega)
        rw [add_add] at e0 e1 e2
        match xs, hxl with
        | [y0, y1, y2], _ =>
          have g0 := hff 0 _ rfl
          have g1 := hff 1 _ rfl
          have g2 := hff 2 _ rfl
          have k1 : Tryd.prog.cellsOf 3 = 1 := by kernel_rfl
          have k2 : Tryd.prog.cellsOf 9 = 1 := by kernel_rfl
          simp [k1, k2] at g0 g1 g2
          obtain ⟨z0, q0, _, _⟩ := DataW.trod_int Tryd.underlying3 g0
          obtain ⟨z1, q1, _, _⟩ := DataW.trod_int Tryd.underlying3 g1
          obtain ⟨z2, q2, _, qz⟩ := DataW.trod_string Tryd.underlying9 g2
          simp at q0 q1 q2
          subst q0 q1 q2
          exact ⟨⟨z0, z1, z2⟩, by simpa using e0, by simpa using e1, by simpa using e2, by simpa using qz⟩
    obtain ⟨q, hq⟩ := choose_lt each
    have hrl : ((List.range len0).map q).length = len0 := by simp
    have hrn : ∀ i, i < len0 → Rw.rn ((List.range len0).map q) i = q i := fun i hi => by unfold Rw.rn; simp [List.getD_eq_getElem?_getD, hi]
    refine ⟨(List.range len0).map q, ⟨some x, cap0, by rw [hrl], ?_⟩, by rw [hrl]; omega, fun y hy => ?_⟩
    · by_cases h0 : len0 = 0
      · exact .inl (by rw [h0]; rfl)
      · obtain ⟨b, off, spot⟩ := x
        have hc := (hq 0 (by omega)).1
        have hspot : spot = none := by simpa [Addr.add] using World.cell?_spot hc
        subst hspot
        have hadd : ∀ j, (⟨b, off, none⟩ : Addr).add j = ⟨b, off + j, none⟩ := fun j => by unfold Addr.add; split <;> simp_all
        have hc0 := hc
        rw [hadd] at hc0
        refine .inr ⟨b, off, rfl, by rw [hrl]; exact hl, World.block_lt_of_cell? w _ hc0, fun i hi => ?_⟩
        rw [hrl] at hi
        obtain ⟨e0, e1, e2, _⟩ := hq i hi
        rw [hadd] at e0 e1 e2
        rw [hrn i hi]
        exact ⟨e0, e1, e2⟩
    · obtain ⟨i, hi, rfl⟩ := List.mem_map.1 hy
      exact (hq i (List.mem_range.1 hi)).2.2.2
end Go.Proofs.YtabmbmligklhoabDoor.Op
