/- 'append([]byte(s), b...)': onto the row of a conversion. -/
import Derived.Test.YtiflfcpoajijaaaDoorHo
import Derived.Lib.FrozenHead
namespace Go.Proofs.YtiflfcpoajijaaaDoor.Fz
open Go.RowKit Go.Proofs.YtiflfcpoajijaaaDoor.Sl Go.Proofs.YtiflfcpoajijaaaDoor.By Go.Proofs.YtiflfcpoajijaaaDoor.Ap Go.Proofs.YtiflfcpoajijaaaDoor.Tx Go.Proofs.YtiflfcpoajijaaaDoor.Ho

theorem run_store_far (P : Program) (g o : Nat) (t : TypeId) (fz : Nat × Nat) : ∀ (vs : List Value) (i : Nat) (cur : Array Value) (w : World), w.heap[g]? = some (.cells cur t fz) → cur.size ≤ fz.1 → o + i + vs.length ≤ cur.size → (∀ v ∈ vs, v.oneCell' = true) →
    (storeCells ⟨g, o, none⟩ vs i).run P w = .ok () (w.setRow g (cur.toList.take (o + i) ++ vs ++ cur.toList.drop (o + i + vs.length)).toArray)
  | [], i, cur, w, hg, _, _, _ => by
    simp only [storeCells, List.append_nil, List.length_nil, Nat.add_zero, List.take_append_drop, Array.toArray_toList]
    rw [setRow_self w g cur t fz hg]
    rfl
  | v :: rest, i, cur, w, hg, hfz, hl, h1 => by
    have hi : o + i < cur.size := by simp at hl; omega
    have hadd : (⟨g, o, none⟩ : Addr).add i = ⟨g, o + i, none⟩ := by unfold Addr.add; split <;> simp_all
    have hcell : w.cell? ⟨g, o + i, none⟩ = some cur[o + i] := by simp [World.cell?, hg, hi]
    have hfro : w.frozen? ⟨g, o + i, none⟩ = false := by
      obtain ⟨lo, hi'⟩ := fz
      simp only [World.frozen?, hg, Bool.and_eq_false_iff, decide_eq_false_iff_not]
      left
      simp only at hfz
      omega
    have hst : (store ((⟨g, o, none⟩ : Addr).add i) v).run P w = .ok () (w.setRow g (cur.setIfInBounds (o + i) v)) := by
      rw [hadd, run_store P w _ v _ (h1 v (by simp)), hcell]
      simp [hfro, setCell_eq_setRow w g (o + i) cur t fz v hg]
    have ih := run_store_far P g o t fz rest (i + 1) (cur.setIfInBounds (o + i) v) (w.setRow g (cur.setIfInBounds (o + i) v)) (setRow_heap w g cur _ t _ hg) (by simpa using hfz) (by simp at hl ⊢; omega) (fun x hx => h1 x (by simp [hx]))
    simp only [storeCells, Sem.run_bind, hst, Result.andThen_ok, ih, setRow_setRow]
    congr 3
    have e := list_seg_step cur.toList (o + i) v rest (by simp at hl ⊢; omega)
    simpa [Array.toList_setIfInBounds, Nat.add_assoc] using e

/-- The row of a conversion: its mark lies behind it. -/
def Conv (w : World) (g cap : Nat) (zs : List Int) : Prop :=
  ∃ cur fz, w.heap[g]? = some (.cells cur 5 fz) ∧ cur.size ≤ fz.1 ∧ cur.size = cap ∧ zs.length ≤ cap ∧ ∀ i, i < zs.length → cur[i]? = some (.int .u8 (nth zs i))
theorem nth8 {xs : List Int} {i : Nat} (h : i < xs.length) : xs[i]? = some (nth xs i) := by
  unfold nth; rw [List.getD_eq_getElem?_getD, List.getElem?_eq_getElem h]; rfl
theorem Conv.cell {w : World} {g cap : Nat} {zs : List Int} (h : Conv w g cap zs) {i : Nat} (hi : i < zs.length) : w.cell? ⟨g, i, none⟩ = some (.int .u8 (nth zs i)) := by
  obtain ⟨cur, fz, h1, _, _, _, h2⟩ := h
  exact (Joins.cell_of_block h1 i).trans (h2 i hi)
/-- '[]byte(s)'. -/
theorem conv_run (s : ByteArray) (w : World) : ∃ cap, (convert 9 22 (.string s)).run Tryd.prog w = .ok (.slice (some ⟨w.heap.size, 0, none⟩) s.size cap) (Lib.bytesWorld w 5 s) ∧ Conv (Lib.bytesWorld w 5 s) w.heap.size cap (bys s) ∧ Below w.heap.size w (Lib.bytesWorld w 5 s) ∧ (Lib.bytesWorld w 5 s).heap.size = w.heap.size + 1 := by
  have hge := grownCap_ge w s.size 0 5
  refine ⟨_, Lib.run_convert_string_bytes w 9 22 5 s (u := .string) Tryd.underlying9 Tryd.underlying22 Tryd.underlying5, ⟨_, _, Lib.bytesWorld_at_new w 5 s, Nat.le_refl _, ?_, by rw [bys_length]; exact hge, fun i hi => ?_⟩, ?_, Lib.bytesWorld_size _ _ _⟩
  · simp [Lib.bytesCells]
    omega
  · rw [bys_length] at hi
    have h1 := Lib.bytesWorld_cell w 5 s i hi
    rw [Joins.cell_of_block (Lib.bytesWorld_at_new w 5 s) i] at h1
    rw [h1]
    unfold nth bys
    have hi' : i < s.data.toList.length := by simpa using hi
    rw [List.getD_eq_getElem?_getD, List.getD_eq_getElem?_getD, List.getElem?_map, List.getElem?_eq_getElem hi']
    rfl
  · refine ⟨?_, ?_, ?_, by rw [Lib.bytesWorld_size]; omega, fun k hk => Lib.bytesWorld_at_old w _ s k hk⟩ <;> simp [Lib.bytesWorld, World.freeze, World.alloc, World.drew, -World.alloc_eq, -World.drew_eq]
theorem range_append {xs ys : List Int} (h : ∀ x ∈ xs, 0 ≤ x ∧ x ≤ 255) (g : ∀ x ∈ ys, 0 ≤ x ∧ x ≤ 255) : ∀ x ∈ xs ++ ys, 0 ≤ x ∧ x ≤ 255 := by
  intro x hx
  rcases List.mem_append.1 hx with hx | hx
  · exact h x hx
  · exact g x hx
/-- 'append(row, u...)', run. -/
theorem run_conv {P : Program} {i : TypeInfo} (t ty : TypeId) (ht : P.underlying t = some (.slice 5)) (hi : P.info? 5 = some i) (hz : i.zero = some (.int .u8 0)) (hsize : i.size = 1) (hby : i.bytes = 1)
    (B g cap n : Nat) (W : World) (u : Value) (zs xs : List Int) (hn : zs.length = n) (hc : Conv W g cap zs) (hB : B ≤ g) (hu : RowB W u xs) (hne : xs ≠ []) (hr : ∀ x ∈ zs, 0 ≤ x ∧ x ≤ 255) (hlen : zs.length + xs.length ≤ 1000000000) :
    ∃ v' w', (Builtin.append_ #[t, t] ty #[.slice (some ⟨g, 0, none⟩) n cap, u]).run P W = .ok v' w' ∧ RowB w' v' (zs ++ xs) ∧ Below B W w' := by
  subst hn
  obtain ⟨a, c, rfl, hu, hrx⟩ := hu
  rcases hu with hu | ⟨b, off, rfl, hcx, hbx, hcell⟩
  · exact absurd hu hne
  have hcz := hc
  obtain ⟨cur, fz, h1, h2, h3, h4, h5⟩ := hc
  have hg : g < W.heap.size := (Array.getElem?_eq_some_iff.1 h1).1
  have hnews : ∀ j v, (xs.map (Value.int .u8))[j]? = some v → W.cell? ((⟨b, off, none⟩ : Addr).add j) = some v := by
    intro j v hj
    have hj' : j < xs.length := by have := (List.getElem?_eq_some_iff.1 hj).1; simpa using this
    rw [addr_add, hcell j hj', ← hj, List.getElem?_map, nth8 hj']
    rfl
  have h1c : ∀ v ∈ xs.map (Value.int .u8), v.oneCell' = true := by
    intro v hv
    obtain ⟨z, _, rfl⟩ := List.mem_map.1 hv
    rfl
  have hrr := range_append hr hrx
  have hll : (zs ++ xs).length = zs.length + xs.length := List.length_append
  by_cases hroom : zs.length + xs.length ≤ cap
  · have hf := run_firstCells_some (P := P) W 1 xs.length ⟨b, off, none⟩ xs.length c (xs.map (Value.int .u8)) (by simp) hnews
    have hst := run_store_far P g zs.length 5 fz (xs.map (Value.int .u8)) 0 cur W h1 h2 (by simp; omega) h1c
    simp only [Nat.add_zero] at hst
    have hrun : (Builtin.append_ #[t, t] ty #[.slice (some ⟨g, 0, none⟩) zs.length cap, .slice (some ⟨b, off, none⟩) xs.length c]).run P W = .ok (.slice (some ⟨g, 0, none⟩) (zs.length + xs.length) cap) (W.setRow g (cur.toList.take zs.length ++ xs.map (Value.int .u8) ++ cur.toList.drop (zs.length + (xs.map (Value.int .u8)).length)).toArray) := by
      simp [Builtin.append_, run_underlying ht, sizeOf, typeInfo, hi, Builtin.lenOf, hroom, hsize, hf, Addr.add_lit, hst]
    refine ⟨_, _, hrun, ⟨_, _, by rw [hll], .inr ⟨g, 0, rfl, by rw [hll]; exact hroom, by simp [World.setRow]; exact hg, fun j hj => ?_⟩, hrr⟩, ⟨rfl, rfl, rfl, by simp [World.setRow], fun k hk => setRow_other _ _ _ _ (by omega)⟩⟩
    rw [hll] at hj
    rw [Nat.zero_add, Joins.cell_of_block (setRow_heap W g cur _ 5 fz h1) j]
    have hcl : cur.toList.length = cap := by simpa using h3
    have htl : (cur.toList.take zs.length).length = zs.length := by rw [List.length_take]; omega
    rw [List.getElem?_toArray, List.append_assoc]
    by_cases hj1 : j < zs.length
    · rw [List.getElem?_append_left (by omega), List.getElem?_take, if_pos hj1]
      have := h5 j hj1
      rw [← Array.getElem?_toList] at this
      rw [this]
      unfold nth
      rw [List.getD_eq_getElem?_getD, List.getD_eq_getElem?_getD, List.getElem?_append_left hj1]
    · rw [List.getElem?_append_right (by omega), htl, List.getElem?_append_left (by simp; omega), List.getElem?_map, nth8 (by omega)]
      unfold nth
      rw [List.getD_eq_getElem?_getD, List.getD_eq_getElem?_getD, List.getElem?_append_right (by omega)]
      rfl
  · have holds : ∀ j v, (zs.map (Value.int .u8))[j]? = some v → W.cell? ((⟨g, 0, none⟩ : Addr).add j) = some v := by
      intro j v hj
      have hj' : j < zs.length := by have := (List.getElem?_eq_some_iff.1 hj).1; simpa using this
      rw [addr_add, Nat.zero_add, hcz.cell hj', ← hj, List.getElem?_map, nth8 hj']
      rfl
    have hrun := run_append_grow (P := P) W t ty 5 i (.int .u8 0) ht hi hz ⟨g, 0, none⟩ zs.length cap (zs.map (Value.int .u8)) (by rw [hsize]; simp) holds ⟨b, off, none⟩ xs.length c (xs.map (Value.int .u8)) (by rw [hsize]; simp) hnews (by omega) (by omega) (by rw [hby]; exact growslice_fits (by omega) (by omega))
    have hge := grownCap_ge W (zs.length + xs.length) cap 5
    refine ⟨_, _, hrun, ⟨_, _, by rw [hll], .inr ⟨W.heap.size, 0, rfl, by rw [hll]; exact hge, by simp, fun j hj => ?_⟩, hrr⟩, ⟨rfl, rfl, rfl, by simp, fun k hk => heap_alloc_old W.drew _ (show k < W.heap.size by omega)⟩⟩
    rw [hll] at hj
    rw [Nat.zero_add]
    refine (Joins.cell_of_block (heap_alloc_new W.drew _) j).trans ?_
    rw [← Array.getElem?_toList]
    simp only [Array.toList_append, List.append_assoc]
    by_cases hj1 : j < zs.length
    · rw [List.getElem?_append_left (by simpa using hj1), List.getElem?_map, nth8 hj1]
      unfold nth
      rw [List.getD_eq_getElem?_getD, List.getD_eq_getElem?_getD, List.getElem?_append_left hj1]
      rfl
    · rw [List.getElem?_append_right (by simp; omega), List.getElem?_append_left (by simp; omega), List.length_map, List.getElem?_map, nth8 (by omega)]
      unfold nth
      rw [List.getD_eq_getElem?_getD, List.getD_eq_getElem?_getD, List.getElem?_append_right (by omega)]
      rfl
end Go.Proofs.YtiflfcpoajijaaaDoor.Fz
