/- Texts put together: Fz, Fu, Put, Fp, Mr, Rm. -/
import Derived.Test.YtnebohdlndiejaaGreatDoorHo
import Derived.Lib.FrozenHead
import Derived.Test.YtnebohdlndiejaaGreatDoorTz
import Derived.Lib.SlBytesConst
import Derived.Test.YtnebohdlndiejaaGreatDoorAp
import Derived.Test.YtnebohdlndiejaaGreatDoorSl
import Derived.Test.YtnebohdlndiejaaGreatDoorRows
import Derived.Test.YtnebohdlndiejaaGreatDoorShaL
/- 'append([]byte(s), b...)': onto the row of a conversion. -/
namespace Go.Proofs.YtnebohdlndiejaaGreatDoor.Fz
open Go.RowKit Go.Proofs.YtnebohdlndiejaaGreatDoor.Sl Go.Proofs.YtnebohdlndiejaaGreatDoor.By Go.Proofs.YtnebohdlndiejaaGreatDoor.Ap Go.Proofs.YtnebohdlndiejaaGreatDoor.Tx Go.Proofs.YtnebohdlndiejaaGreatDoor.Ho

theorem run_store_far (P : Program) (g o : Nat) (t : TypeId) (fz : Nat × Nat) : ∀ (vs : List Value) (i : Nat) (cur : Array Value) (w : World), w.heap[g]? = some (.cells cur t fz) → cur.size ≤ fz.1 → o + i + vs.length ≤ cur.size → (∀ v ∈ vs, v.oneCell' = true) →
    (storeCells ⟨g, o, none⟩ vs i).run P w = .ok () (w.setRow g (cur.toList.take (o + i) ++ vs ++ cur.toList.drop (o + i + vs.length)).toArray)
  | [], i, cur, w, hg, _, _, _ => by
    simp only [storeCells, List.append_nil, List.length_nil, Nat.add_zero, List.take_append_drop, Array.toArray_toList]
    rw [setRow_self w g cur t fz hg]
    rfl
  | v :: rest, i, cur, w, hg, hfz, hl, h1 => by
    have hi : o + i < cur.size := by simp at hl; omega
    have hadd : (⟨g, o, none⟩ : Addr).add i = ⟨g, o + i, none⟩ := by unfold Addr.add; split <;> simp_all
    have hcell : w.cell? ⟨g, o + i, none⟩ = some cur[o + i] := by simp [World.cell?, hg, hi]
    have hfro : w.frozen? ⟨g, o + i, none⟩ = false := by
      obtain ⟨lo, hi'⟩ := fz
      simp only [World.frozen?, hg, Bool.and_eq_false_iff, decide_eq_false_iff_not]
      left
      simp only at hfz
      omega
    have hst : (store ((⟨g, o, none⟩ : Addr).add i) v).run P w = .ok () (w.setRow g (cur.setIfInBounds (o + i) v)) := by
      rw [hadd, run_store P w _ v _ (h1 v (by simp)), hcell]
      simp [hfro, setCell_eq_setRow w g (o + i) cur t fz v hg]
    have ih := run_store_far P g o t fz rest (i + 1) (cur.setIfInBounds (o + i) v) (w.setRow g (cur.setIfInBounds (o + i) v)) (setRow_heap w g cur _ t _ hg) (by simpa using hfz) (by simp at hl ⊢; omega) (fun x hx => h1 x (by simp [hx]))
    simp only [storeCells, Sem.run_bind, hst, Result.andThen_ok, ih, setRow_setRow]
    congr 3
    have e := list_seg_step cur.toList (o + i) v rest (by simp at hl ⊢; omega)
    simpa [Array.toList_setIfInBounds, Nat.add_assoc] using e

/-- The row of a conversion: its mark lies behind it. -/
def Conv (w : World) (g cap : Nat) (zs : List Int) : Prop :=
  ∃ cur fz, w.heap[g]? = some (.cells cur 5 fz) ∧ cur.size ≤ fz.1 ∧ cur.size = cap ∧ zs.length ≤ cap ∧ ∀ i, i < zs.length → cur[i]? = some (.int .u8 (nth zs i))
theorem nth8 {xs : List Int} {i : Nat} (h : i < xs.length) : xs[i]? = some (nth xs i) := by
  unfold nth; rw [List.getD_eq_getElem?_getD, List.getElem?_eq_getElem h]; rfl
theorem Conv.cell {w : World} {g cap : Nat} {zs : List Int} (h : Conv w g cap zs) {i : Nat} (hi : i < zs.length) : w.cell? ⟨g, i, none⟩ = some (.int .u8 (nth zs i)) := by
  obtain ⟨cur, fz, h1, _, _, _, h2⟩ := h
  exact (Joins.cell_of_block h1 i).trans (h2 i hi)
/-- '[]byte(s)'. -/
theorem conv_run (s : ByteArray) (w : World) : ∃ cap, (convert 9 86 (.string s)).run Tryz.prog w = .ok (.slice (some ⟨w.heap.size, 0, none⟩) s.size cap) (Lib.bytesWorld w 5 s) ∧ Conv (Lib.bytesWorld w 5 s) w.heap.size cap (bys s) ∧ Below w.heap.size w (Lib.bytesWorld w 5 s) ∧ (Lib.bytesWorld w 5 s).heap.size = w.heap.size + 1 := by
  have hge := grownCap_ge w s.size 0 5
  refine ⟨_, Lib.run_convert_string_bytes w 9 86 5 s (u := .string) Tryz.underlying9 Tryz.underlying86 Tryz.underlying5, ⟨_, _, Lib.bytesWorld_at_new w 5 s, Nat.le_refl _, ?_, by rw [bys_length]; exact hge, fun i hi => ?_⟩, ?_, Lib.bytesWorld_size _ _ _⟩
  · simp [Lib.bytesCells]
    omega
  · rw [bys_length] at hi
    have h1 := Lib.bytesWorld_cell w 5 s i hi
    rw [Joins.cell_of_block (Lib.bytesWorld_at_new w 5 s) i] at h1
    rw [h1]
    unfold nth bys
    have hi' : i < s.data.toList.length := by simpa using hi
    rw [List.getD_eq_getElem?_getD, List.getD_eq_getElem?_getD, List.getElem?_map, List.getElem?_eq_getElem hi']
    rfl
  · refine ⟨?_, ?_, ?_, by rw [Lib.bytesWorld_size]; omega, fun k hk => Lib.bytesWorld_at_old w _ s k hk⟩ <;> simp [Lib.bytesWorld, World.freeze, World.alloc, World.drew, -World.alloc_eq, -World.drew_eq]
theorem range_append {xs ys : List Int} (h : ∀ x ∈ xs, 0 ≤ x ∧ x ≤ 255) (g : ∀ x ∈ ys, 0 ≤ x ∧ x ≤ 255) : ∀ x ∈ xs ++ ys, 0 ≤ x ∧ x ≤ 255 := by
  intro x hx
  rcases List.mem_append.1 hx with hx | hx
  · exact h x hx
  · exact g x hx
/-- 'append(row, u...)', run. -/
theorem run_conv {P : Program} {i : TypeInfo} (t ty : TypeId) (ht : P.underlying t = some (.slice 5)) (hi : P.info? 5 = some i) (hz : i.zero = some (.int .u8 0)) (hsize : i.size = 1) (hby : i.bytes = 1)
    (B g cap n : Nat) (W : World) (u : Value) (zs xs : List Int) (hn : zs.length = n) (hc : Conv W g cap zs) (hB : B ≤ g) (hu : RowB W u xs) (hne : xs ≠ []) (hr : ∀ x ∈ zs, 0 ≤ x ∧ x ≤ 255) (hlen : zs.length + xs.length ≤ 1000000000) :
    ∃ v' w', (Builtin.append_ #[t, t] ty #[.slice (some ⟨g, 0, none⟩) n cap, u]).run P W = .ok v' w' ∧ RowB w' v' (zs ++ xs) ∧ Below B W w' := by
  subst hn
  obtain ⟨a, c, rfl, hu, hrx⟩ := hu
  rcases hu with hu | ⟨b, off, rfl, hcx, hbx, hcell⟩
  · exact absurd hu hne
  have hcz := hc
  obtain ⟨cur, fz, h1, h2, h3, h4, h5⟩ := hc
  have hg : g < W.heap.size := (Array.getElem?_eq_some_iff.1 h1).1
  have hnews : ∀ j v, (xs.map (Value.int .u8))[j]? = some v → W.cell? ((⟨b, off, none⟩ : Addr).add j) = some v := by
    intro j v hj
    have hj' : j < xs.length := by have := (List.getElem?_eq_some_iff.1 hj).1; simpa using this
    rw [addr_add, hcell j hj', ← hj, List.getElem?_map, nth8 hj']
    rfl
  have h1c : ∀ v ∈ xs.map (Value.int .u8), v.oneCell' = true := by
    intro v hv
    obtain ⟨z, _, rfl⟩ := List.mem_map.1 hv
    rfl
  have hrr := range_append hr hrx
  have hll : (zs ++ xs).length = zs.length + xs.length := List.length_append
  by_cases hroom : zs.length + xs.length ≤ cap
  · have hf := run_firstCells_some (P := P) W 1 xs.length ⟨b, off, none⟩ xs.length c (xs.map (Value.int .u8)) (by simp) hnews
    have hst := run_store_far P g zs.length 5 fz (xs.map (Value.int .u8)) 0 cur W h1 h2 (by simp; omega) h1c
    simp only [Nat.add_zero] at hst
    have hrun : (Builtin.append_ #[t, t] ty #[.slice (some ⟨g, 0, none⟩) zs.length cap, .slice (some ⟨b, off, none⟩) xs.length c]).run P W = .ok (.slice (some ⟨g, 0, none⟩) (zs.length + xs.length) cap) (W.setRow g (cur.toList.take zs.length ++ xs.map (Value.int .u8) ++ cur.toList.drop (zs.length + (xs.map (Value.int .u8)).length)).toArray) := by
      simp [Builtin.append_, run_underlying ht, sizeOf, typeInfo, hi, Builtin.lenOf, hroom, hsize, hf, Addr.add_lit, hst]
    refine ⟨_, _, hrun, ⟨_, _, by rw [hll], .inr ⟨g, 0, rfl, by rw [hll]; exact hroom, by simp [World.setRow]; exact hg, fun j hj => ?_⟩, hrr⟩, ⟨rfl, rfl, rfl, by simp [World.setRow], fun k hk => setRow_other _ _ _ _ (by omega)⟩⟩
    rw [hll] at hj
    rw [Nat.zero_add, Joins.cell_of_block (setRow_heap W g cur _ 5 fz h1) j]
    have hcl : cur.toList.length = cap := by simpa using h3
    have htl : (cur.toList.take zs.length).length = zs.length := by rw [List.length_take]; omega
    rw [List.getElem?_toArray, List.append_assoc]
    by_cases hj1 : j < zs.length
    · rw [List.getElem?_append_left (by omega), List.getElem?_take, if_pos hj1]
      have := h5 j hj1
      rw [← Array.getElem?_toList] at this
      rw [this]
      unfold nth
      rw [List.getD_eq_getElem?_getD, List.getD_eq_getElem?_getD, List.getElem?_append_left hj1]
    · rw [List.getElem?_append_right (by omega), htl, List.getElem?_append_left (by simp; omega), List.getElem?_map, nth8 (by omega)]
      unfold nth
      rw [List.getD_eq_getElem?_getD, List.getD_eq_getElem?_getD, List.getElem?_append_right (by omega)]
      rfl
  · have holds : ∀ j v, (zs.map (Value.int .u8))[j]? = some v → W.cell? ((⟨g, 0, none⟩ : Addr).add j) = some v := by
      intro j v hj
      have hj' : j < zs.length := by have := (List.getElem?_eq_some_iff.1 hj).1; simpa using this
      rw [addr_add, Nat.zero_add, hcz.cell hj', ← hj, List.getElem?_map, nth8 hj']
      rfl
    have hrun := run_append_grow (P := P) W t ty 5 i (.int .u8 0) ht hi hz ⟨g, 0, none⟩ zs.length cap (zs.map (Value.int .u8)) (by rw [hsize]; simp) holds ⟨b, off, none⟩ xs.length c (xs.map (Value.int .u8)) (by rw [hsize]; simp) hnews (by omega) (by omega) (by rw [hby]; exact growslice_fits (by omega) (by omega))
    have hge := grownCap_ge W (zs.length + xs.length) cap 5
    refine ⟨_, _, hrun, ⟨_, _, by rw [hll], .inr ⟨W.heap.size, 0, rfl, by rw [hll]; exact hge, by simp, fun j hj => ?_⟩, hrr⟩, ⟨rfl, rfl, rfl, by simp, fun k hk => heap_alloc_old W.drew _ (show k < W.heap.size by omega)⟩⟩
    rw [hll] at hj
    rw [Nat.zero_add]
    refine (Joins.cell_of_block (heap_alloc_new W.drew _) j).trans ?_
    rw [← Array.getElem?_toList]
    simp only [Array.toList_append, List.append_assoc]
    by_cases hj1 : j < zs.length
    · rw [List.getElem?_append_left (by simpa using hj1), List.getElem?_map, nth8 hj1]
      unfold nth
      rw [List.getD_eq_getElem?_getD, List.getD_eq_getElem?_getD, List.getElem?_append_left hj1]
      rfl
    · rw [List.getElem?_append_right (by simp; omega), List.getElem?_append_left (by simp; omega), List.length_map, List.getElem?_map, nth8 (by omega)]
      unfold nth
      rw [List.getD_eq_getElem?_getD, List.getD_eq_getElem?_getD, List.getElem?_append_right (by omega)]
      rfl
end Go.Proofs.YtnebohdlndiejaaGreatDoor.Fz

/- Bytes that began as a literal: the first append makes a row of the call's own. -/
namespace Go.Proofs.YtnebohdlndiejaaGreatDoor.Fu
open Go.RowKit Go.Proofs.YtnebohdlndiejaaGreatDoor.Sl Go.Proofs.YtnebohdlndiejaaGreatDoor.By Go.Proofs.YtnebohdlndiejaaGreatDoor.Ap Go.Proofs.YtnebohdlndiejaaGreatDoor.Tx

/-- The slice is a row with no room behind, whatever its mark. -/
def Full (w : World) (B : Nat) (v : Value) (zs : List Int) : Prop :=
  ∃ g, v = .slice (some ⟨g, 0, none⟩) zs.length zs.length ∧ B ≤ g ∧ g < w.heap.size ∧ ∀ j, j < zs.length → w.cell? ⟨g, j, none⟩ = some (.int .u8 (nth zs j))
def OwnF (w : World) (B : Nat) (v : Value) (zs : List Int) : Prop := OwnB 5 w B v zs ∨ Full w B v zs
theorem OwnF.below {w w' : World} {B : Nat} {v : Value} {zs : List Int} (h : OwnF w B v zs) (hb : Below w.heap.size w w') : OwnF w' B v zs := by
  rcases h with h | ⟨g, e, hB, hg, hc⟩
  · exact .inl (own_below h hb)
  · exact .inr ⟨g, e, hB, Nat.lt_of_lt_of_le hg hb.size, fun j hj => (hb.cell (p := ⟨g, j, none⟩) hg).trans (hc j hj)⟩
theorem OwnF.rowB {w : World} {B : Nat} {v : Value} {zs : List Int} (h : OwnF w B v zs) (hr : ∀ z ∈ zs, 0 ≤ z ∧ z ≤ 255) : RowB w v zs := by
  rcases h with h | ⟨g, rfl, hB, hg, hc⟩
  · exact own_rowB h hr
  · refine ⟨_, _, rfl, .inr ⟨g, 0, rfl, Nat.le_refl _, hg, fun i hi => ?_⟩, hr⟩
    rw [Nat.zero_add]
    exact hc i hi
theorem OwnF.drew {w : World} {B : Nat} {v : Value} {zs : List Int} (h : OwnF w B v zs) : OwnF w.drew B v zs := h
/-- '[]byte("..")' of a constant. -/
theorem full_lit (w : World) (zs : List Int) (n : Nat) (hn : zs.length = n) (cs : Array Value) (hcs : cs = (zs.map (Value.int .u8)).toArray) (fr : Nat × Nat) : OwnF (w.alloc (.cells cs 5 fr)) w.heap.size (.slice (some ⟨w.heap.size, 0, none⟩) n n) zs := by
  subst hn hcs
  refine .inr ⟨w.heap.size, rfl, Nat.le_refl _, by simp, fun j hj => ?_⟩
  rw [Joins.cell_of_block (heap_alloc_new w _) j, List.getElem?_toArray, List.getElem?_map, List.getElem?_eq_getElem hj]
  unfold nth
  rw [List.getD_eq_getElem?_getD, List.getElem?_eq_getElem hj]
  rfl
theorem run_strF {P : Program} {i : TypeInfo} (t tx ty : TypeId) (ht : P.underlying t = some (.slice 5)) (htx : P.underlying tx = some .string) (hi : P.info? 5 = some i) (hz : i.zero = some (.int .u8 0)) (hsize : i.size = 1) (hby : i.bytes = 1)
    (B : Nat) (W : World) (v : Value) (s : ByteArray) (zs : List Int) (hown : OwnF W B v zs) (hB : B ≤ W.heap.size) (hlen : zs.length + s.size ≤ 1000000000) (hs : 0 < s.size) :
    ∃ v' w', (Builtin.append_ #[t, tx] ty #[v, .string s]).run P W = .ok v' w' ∧ OwnB 5 w' B v' (zs ++ bys s) ∧ Below B W w' := by
  rcases hown with hown | ⟨g, rfl, hg, hlt, hc⟩
  · obtain ⟨v', w', h1, h2, h3⟩ := run_str (P := P) t tx ty ht htx hi hz hsize hby B W v s zs hown hB (by omega)
    exact ⟨v', w', h1, h2, h3.below hown hB⟩
  · have holds : ∀ j u, (zs.map (Value.int .u8))[j]? = some u → W.cell? ((⟨g, 0, none⟩ : Addr).add j) = some u := by
      intro j u hj
      have hj' : j < zs.length := by have := (List.getElem?_eq_some_iff.1 hj).1; simpa using this
      rw [addr_add, Nat.zero_add, hc j hj', ← hj, List.getElem?_map, List.getElem?_eq_getElem hj']
      unfold nth
      rw [List.getD_eq_getElem?_getD, List.getElem?_eq_getElem hj']
      rfl
    have hr := Lib.run_append_grow_string (P := P) W t tx ty 5 i (.int .u8 0) ht htx hi hz ⟨g, 0, none⟩ zs.length zs.length (zs.map (Value.int .u8)) (by rw [hsize]; simp) holds s (by omega) (by omega) (by rw [hby]; exact growslice_fits (by omega) (by omega))
    refine ⟨_, _, hr, ?_, ⟨rfl, rfl, rfl, by simp, fun k hk => heap_alloc_old W.drew _ (show k < W.heap.size by omega)⟩⟩
    have hge := grownCap_ge W (zs.length + s.size) zs.length 5
    have hcm : grownCap W (zs.length + s.size) zs.length 5 ≤ maxLen := grownCap_le_maxLen W _ _ _ (by unfold maxLen; omega)
    have hl : (zs ++ bys s).length = zs.length + s.size := by rw [List.length_append, bys_length]
    unfold OwnB
    rw [hl, List.map_append, ← str_cells]
    have hlen2 : (zs.map (Value.int .u8) ++ Lib.strCells s).length = (zs.length + s.size) * 1 := by rw [List.length_append, List.length_map, Lib.strCells_length, Nat.mul_one]
    refine ⟨hlen2, .inr ⟨W.heap.size, _, _, rfl, hB, heap_alloc_new W.drew _, hge, hcm, ?_, ?_⟩⟩
    · have hz1 : (Value.int IntKind.u8 0).cells.size = 1 := rfl
      simp only [Array.size_append, List.size_toArray, size_zeroCells, hz1, List.length_map, Lib.strCells_length]
      omega
    · simp only [Array.toList_append, List.append_assoc]
      rw [← List.append_assoc, ← hlen2]
      exact List.take_left
theorem list_strF {P : Program} {i : TypeInfo} {ops : Array Oper} {rest : List Oper} {o : Oper} {a : Act} {Q : Exit → Act → World → Prop} (hgd : o.guard = none) (s x : Operand) (t tx : TypeId) (ho : o.op = .call { callee := .builtin .append, args := #[s, x], argTypes := #[t, tx] }) (ht : P.underlying t = some (.slice 5)) (htx : P.underlying tx = some .string) (hi : P.info? 5 = some i) (hz : i.zero = some (.int .u8 0))
    (hsize : i.size = 1) (hby : i.bytes = 1) (B : Nat) (W : World) (v : Value) (st : ByteArray) (zs : List Int) (hs : a.eval s = v) (hx : a.eval x = .string st) (hown : OwnF W B v zs) (hB : B ≤ W.heap.size) (hlen : zs.length + st.size ≤ 1000000000) (h0 : 0 < st.size)
    (h : ∀ v' w', OwnF w' B v' (zs ++ bys st) → Below B W w' → wpList P ops Q rest (a.put o.dst v') w') : wpList P ops Q (o :: rest) a W := by
  refine wpList_plain hgd fun K hK => ?_
  obtain ⟨v', w', hr, ho', hg⟩ := run_strF (P := P) t tx o.type ht htx hi hz hsize hby B W v st zs hown hB hlen h0
  exact wp_app ho hs hx hr (hK _ _ (h v' w' (.inl ho') hg))
theorem step_strF {P : Program} {i : TypeInfo} {ops : Array Oper} {o : Oper} {a : Act} {K : Act → World → Prop} {Q : Exit → Act → World → Prop} {E : Prop} (hgd : o.guard = none) (s x : Operand) (t tx : TypeId) (ho : o.op = .call { callee := .builtin .append, args := #[s, x], argTypes := #[t, tx] }) (ht : P.underlying t = some (.slice 5)) (htx : P.underlying tx = some .string) (hi : P.info? 5 = some i) (hz : i.zero = some (.int .u8 0))
    (hsize : i.size = 1) (hby : i.bytes = 1) (B : Nat) (W : World) (v : Value) (st : ByteArray) (zs : List Int) (hs : a.eval s = v) (hx : a.eval x = .string st) (hown : OwnF W B v zs) (hB : B ≤ W.heap.size) (hlen : zs.length + st.size ≤ 1000000000) (h0 : 0 < st.size)
    (h : ∀ v' w', OwnF w' B v' (zs ++ bys st) → Below B W w' → K (a.put o.dst v') w') : if Region.wanted o (yielded ops a.tmps) = true then Oper.wp P o a W K Q else E := by
  have hw : Region.wanted o (yielded ops a.tmps) = true := by simp [Region.wanted, hgd]
  rw [if_pos hw]
  obtain ⟨v', w', hr, ho', hg⟩ := run_strF (P := P) t tx o.type ht htx hi hz hsize hby B W v st zs hown hB hlen h0
  exact wp_app ho hs hx hr (h v' w' (.inl ho') hg)
end Go.Proofs.YtnebohdlndiejaaGreatDoor.Fu

/- Bytes that are told: numbers, texts. -/
namespace Go.Proofs.YtnebohdlndiejaaGreatDoor.Pu
open Go.RowKit Go.Proofs.YtnebohdlndiejaaGreatDoor.Sl Go.Proofs.YtnebohdlndiejaaGreatDoor.By Go.Proofs.YtnebohdlndiejaaGreatDoor.Ap

/-- The byte of a number that stands 'at' places from its end. -/
def nb (v : Int) (at' : Nat) : Int := v / 2 ^ (8 * at') % 256
def nums (v : Int) (size k : Nat) : List Int := (List.range k).map fun j => nb v (size - 1 - j)
theorem nums_succ (v : Int) (size k : Nat) : nums v size (k + 1) = nums v size k ++ [nb v (size - 1 - k)] := by simp [nums, List.range_succ]
theorem nums_length (v : Int) (size k : Nat) : (nums v size k).length = k := by simp [nums]

theorem nb_range (v : Int) (k : Nat) : 0 ≤ nb v k ∧ nb v k ≤ 255 := by unfold nb; omega
theorem nums_range (v : Int) (size k : Nat) : ∀ z ∈ nums v size k, 0 ≤ z ∧ z ≤ 255 := by
  intro z hz
  unfold nums at hz
  obtain ⟨j, _, rfl⟩ := List.mem_map.1 hz
  exact nb_range _ _
set_option maxHeartbeats 400000 in
theorem putNumber_any (v : Value) (zs : List Int) (x : Int) (size : Nat) (B : Nat) (w : World) (hown : OwnB 5 w B v zs) (hB : B ≤ w.heap.size) (hs : size ≤ 4) (hlen : zs.length ≤ 1048576) :
    Calls Tryz.prog 103 #[v, .int .i64 x, .int .i64 size] w fun e w' => ∃ v', e = .returned v' ∧ OwnB 5 w' B v' (zs ++ nums x size size) ∧ Kp w w' v v' := by
  obtain ⟨i0, hi, hz0, hz1, hz2⟩ := info_parts Sl.info5
  have hs0 : (size : Int) ≤ 4 := by omega
  have HS : Hid (size ≤ 4) := hs
  have HL : Hid (zs.length ≤ 1048576) := hlen
  clear hs hlen
  go_enter Tryz.func103, Tryz.ntmps103
  go_wp2_with fail
  go_loopw [0, 7] (fun b i wr => ∃ (k : Nat) (q : Int), Hid ((k : Int) + q + 1 = size ∧ k ≤ size) ∧ -1 ≤ q ∧ q ≤ 3 ∧ i = .int .i64 q ∧ OwnB 5 wr B b (zs ++ nums x size k) ∧ Kp w wr v b) (fun _ i _ => (intOf i + 1).toNat)
  case atStart => exact ⟨0, (size : Int) - 1, ⟨by omega, by omega⟩, by omega, by omega, by go_num, by simpa [nums] using hown, Kp.refl _ _⟩
  case round =>
    clear hown hs0
    obtain ⟨k, q, HQ, hq0, hq1, rfl, hown, hkp⟩ := hrel
    have hB' : B ≤ wr.heap.size := Nat.le_trans hB hkp.size
    by_cases hlt : 0 ≤ q
    · have hl : (zs ++ nums x size k).length + 1 ≤ 140737488355328 := by rw [List.length_append, nums_length]; have := HQ.out; have := HL.out; have := HS.out; omega
      go_wp2_with (at_builtin; go_must (refine list_one (by rfl) _ _ 86 (by rfl) Tryz.underlying86 hi hz0 hz1 hz2 B _ _ _ _ (by rfl) (by rfl) hown hB' (by omega) hl ?_; intro v' w' hown' hkp'))
      have e : x / 2 ^ (8 * q).toNat % 256 = nb x (size - 1 - k) := by
        unfold nb
        rw [show (8 * q).toNat = 8 * (size - 1 - k) by have := HQ.out; omega]
      rw [e, List.append_assoc, ← nums_succ] at hown'
      exact ⟨⟨k + 1, q - 1, ⟨by have := HQ.out; omega, by have := HQ.out; omega⟩, by omega, by omega, rfl, hown', hkp.trans hkp'⟩, by simp [intOf]; omega⟩
    · have hk : k = size := by have := HQ.out; omega
      have HK : Hid (k = size) := hk
      clear hk
      go_wp2
      go_ret
      exact ⟨_, rfl, by rw [HK.out] at hown; exact hown, hkp⟩

set_option maxHeartbeats 400000 in
theorem putText_any (v : Value) (zs : List Int) (s : ByteArray) (size : Nat) (B : Nat) (w : World) (hown : OwnB 5 w B v zs) (hB : B ≤ w.heap.size) (hs : size ≤ 4) (hlen : zs.length ≤ 1048000) (hl2 : s.size ≤ 1048576) :
    Calls Tryz.prog 133 #[v, .string s, .int .i64 size] w fun e w' => ∃ v', e = .returned v' ∧ OwnB 5 w' B v' (zs ++ nums (s.size : Int) size size ++ bys s) ∧ Kp w w' v v' := by
  obtain ⟨i0, hi, hz0, hz1, hz2⟩ := info_parts Sl.info5
  have hl : ∀ q : List Int, q.length = zs.length + size → q.length + s.size ≤ 140737488355328 := by omega
  have HN : Hid ((zs ++ nums (s.size : Int) size size).length = zs.length + size) := by show _ = _; rw [List.length_append, nums_length]
  have HL : Hid (_) := hl
  have HO : Hid (OwnB 5 w B v zs) := hown
  clear hl hown
  go_enter Tryz.func133, Tryz.ntmps133
  go_wp2_with fail
  refine (putNumber_any v zs _ size B _ HO.out hB hs (by omega)).mono ?_
  rintro e w1 ⟨v1, rfl, o1, k1⟩
  have B1 : B ≤ w1.heap.size := Nat.le_trans hB k1.size
  go_wp2_with (at_builtin; go_must (refine list_str (by rfl) _ _ 86 9 (by rfl) Tryz.underlying86 Tryz.underlying9 hi hz0 hz1 hz2 B _ _ s _ (by rfl) (by rfl) o1 B1 (HL.out _ HN.out) ?_; intro v2 w2 o2 k2))
  go_ret
  exact ⟨_, rfl, o2, k1.trans k2⟩

set_option maxHeartbeats 400000 in
theorem l02Number_any (x : Int) (size : Nat) (w : World) (hs : size ≤ 4) :
    Calls Tryz.prog 94 #[.int .i64 x, .int .i64 size] w fun e w' => ∃ v', e = .returned v' ∧ OwnB 5 w' w.heap.size v' (nums x size size) ∧ Below w.heap.size w w' := by
  obtain ⟨i0, hi, hz0, hz1, hz2⟩ := info_parts Sl.info5
  have hs0 : (size : Int) ≤ 4 := by omega
  have HS : Hid (size ≤ 4) := hs
  clear hs
  go_enter Tryz.func94, Tryz.ntmps94
  go_wp2_with fail
  go_loopw [5, 6] (fun b i wr => ∃ (k : Nat) (q : Int), Hid ((k : Int) + q + 1 = size ∧ k ≤ size) ∧ -1 ≤ q ∧ q ≤ 3 ∧ i = .int .i64 q ∧ OwnB 5 wr w.heap.size b (nums x size k) ∧ Below w.heap.size w wr) (fun _ i _ => (intOf i + 1).toNat)
  case atStart => exact ⟨0, (size : Int) - 1, ⟨by omega, by omega⟩, by omega, by omega, by go_num, own_made 5 w w.heap.size #[] 0 (Nat.le_refl _) (by simp [maxLen]) rfl, (Below.refl _ _).alloc (Nat.le_refl _) _⟩
  case round =>
    clear hs0
    obtain ⟨k, q, HQ, hq0, hq1, rfl, hown, hbel⟩ := hrel
    by_cases hlt : 0 ≤ q
    · have hl : (nums x size k).length + 1 ≤ 140737488355328 := by rw [nums_length]; have := HQ.out; have := HS.out; omega
      have hB := hbel.size
      go_wp2_with (at_builtin; go_must (refine By.wpList_append_byte (by rfl) _ _ 86 (by rfl) 5 i0 Tryz.underlying86 hi hz0 hz1 hz2 w.heap.size w _ _ _ _ (by rfl) hown hbel hB (by rfl) hl ?_; intro v' w' hown' hbel' hB'))
      have e : x / 2 ^ (8 * q).toNat % 256 = nb x (size - 1 - k) := by
        unfold nb
        rw [show (8 * q).toNat = 8 * (size - 1 - k) by have := HQ.out; omega]
      rw [e, ← nums_succ] at hown'
      exact ⟨⟨k + 1, q - 1, ⟨by have := HQ.out; omega, by have := HQ.out; omega⟩, by omega, by omega, rfl, hown', hbel'⟩, by simp [intOf]; omega⟩
    · have hk : k = size := by have := HQ.out; omega
      have HK : Hid (k = size) := hk
      clear hk
      go_wp2
      go_ret
      exact ⟨_, rfl, by rw [HK.out] at hown; exact hown, hbel⟩
end Go.Proofs.YtnebohdlndiejaaGreatDoor.Pu

/- A number's bytes behind a constant's: impl.putNumber onto '[]byte("..")'. -/
namespace Go.Proofs.YtnebohdlndiejaaGreatDoor.Fu
open Go.RowKit Go.Proofs.YtnebohdlndiejaaGreatDoor.Sl Go.Proofs.YtnebohdlndiejaaGreatDoor.By Go.Proofs.YtnebohdlndiejaaGreatDoor.Ap Go.Proofs.YtnebohdlndiejaaGreatDoor.Tx Go.Proofs.YtnebohdlndiejaaGreatDoor.Ho Go.Proofs.YtnebohdlndiejaaGreatDoor.Fz Go.Proofs.YtnebohdlndiejaaGreatDoor.Pu

theorem run_rowF {P : Program} {i : TypeInfo} (t ty : TypeId) (ht : P.underlying t = some (.slice 5)) (hi : P.info? 5 = some i) (hz : i.zero = some (.int .u8 0)) (hsize : i.size = 1) (hby : i.bytes = 1)
    (B : Nat) (W : World) (v u : Value) (zs xs : List Int) (hown : OwnF W B v zs) (hB : B ≤ W.heap.size) (hu : RowB W u xs) (hne : xs ≠ []) (hlen : zs.length + xs.length ≤ 1000000000) :
    ∃ v' w', (Builtin.append_ #[t, t] ty #[v, u]).run P W = .ok v' w' ∧ OwnB 5 w' B v' (zs ++ xs) ∧ Below B W w' := by
  rcases hown with hown | ⟨g, rfl, hg, hlt, hc⟩
  · obtain ⟨v', w', h1, h2, h3⟩ := run_row (P := P) t ty ht hi hz hsize hby B W v u zs xs hown hB hu (by omega)
    exact ⟨v', w', h1, h2, h3.below hown hB⟩
  · obtain ⟨a, c, rfl, hu, hrx⟩ := hu
    rcases hu with hu | ⟨b, off, rfl, hcx, hbx, hcell⟩
    · exact absurd hu hne
    have hpos : 0 < xs.length := by cases xs with | nil => exact absurd rfl hne | cons x l => simp
    have hnews : ∀ j v, (xs.map (Value.int .u8))[j]? = some v → W.cell? ((⟨b, off, none⟩ : Addr).add j) = some v := by
      intro j v hj
      have hj' : j < xs.length := by have := (List.getElem?_eq_some_iff.1 hj).1; simpa using this
      rw [addr_add, hcell j hj', ← hj, List.getElem?_map, nth8 hj']
      rfl
    have holds : ∀ j u, (zs.map (Value.int .u8))[j]? = some u → W.cell? ((⟨g, 0, none⟩ : Addr).add j) = some u := by
      intro j u hj
      have hj' : j < zs.length := by have := (List.getElem?_eq_some_iff.1 hj).1; simpa using this
      rw [addr_add, Nat.zero_add, hc j hj', ← hj, List.getElem?_map, nth8 hj']
      rfl
    have hr := run_append_grow (P := P) W t ty 5 i (.int .u8 0) ht hi hz ⟨g, 0, none⟩ zs.length zs.length (zs.map (Value.int .u8)) (by rw [hsize]; simp) holds ⟨b, off, none⟩ xs.length c (xs.map (Value.int .u8)) (by rw [hsize]; simp) hnews (by omega) (by omega) (by rw [hby]; exact growslice_fits (by omega) (by omega))
    refine ⟨_, _, hr, ?_, ⟨rfl, rfl, rfl, by simp, fun k hk => heap_alloc_old W.drew _ (show k < W.heap.size by omega)⟩⟩
    have hge := grownCap_ge W (zs.length + xs.length) zs.length 5
    have hcm : grownCap W (zs.length + xs.length) zs.length 5 ≤ maxLen := grownCap_le_maxLen W _ _ _ (by unfold maxLen; omega)
    have hl : (zs ++ xs).length = zs.length + xs.length := List.length_append
    unfold OwnB
    rw [hl, List.map_append]
    have hlen2 : (zs.map (Value.int .u8) ++ xs.map (Value.int .u8)).length = (zs.length + xs.length) * 1 := by simp
    refine ⟨hlen2, .inr ⟨W.heap.size, _, _, rfl, hB, heap_alloc_new W.drew _, hge, hcm, ?_, ?_⟩⟩
    · have hz1 : (Value.int IntKind.u8 0).cells.size = 1 := rfl
      simp only [Array.size_append, List.size_toArray, size_zeroCells, hz1, List.length_map]
      omega
    · simp only [Array.toList_append, List.append_assoc]
      rw [← List.append_assoc, ← hlen2]
      exact List.take_left
theorem list_oneF {P : Program} {i : TypeInfo} {ops : Array Oper} {rest : List Oper} {o : Oper} {a : Act} {Q : Exit → Act → World → Prop} (hgd : o.guard = none) (s x : Operand) (t : TypeId) (ho : o.op = .call { callee := .builtin .append, args := #[s, x], argTypes := #[t, t] }) (ht : P.underlying t = some (.slice 5)) (hi : P.info? 5 = some i) (hz : i.zero = some (.int .u8 0))
    (hsize : i.size = 1) (hby : i.bytes = 1) (B : Nat) (W : World) (v : Value) (z : Int) (zs : List Int) (hs : a.eval s = v) (hx : a.eval x = .slice (some ⟨W.heap.size, 0, none⟩) 1 1) (hown : OwnF W B v zs) (hB : B ≤ W.heap.size) (hz' : 0 ≤ z ∧ z ≤ 255) (hlen : zs.length ≤ 1000000)
    (h : ∀ v' w', OwnF w' B v' (zs ++ [z]) → Below B W w' → wpList P ops Q rest (a.put o.dst v') w') : wpList P ops Q (o :: rest) a (W.alloc (.cells #[.int .u8 z] 5)) := by
  have b0 := bel_new W (.cells #[.int .u8 z] 5)
  refine wpList_plain hgd fun K hK => ?_
  obtain ⟨v', w', hr, ho', hg⟩ := run_rowF (P := P) t o.type ht hi hz hsize hby B _ v _ zs [z] (OwnF.below hown b0) (Nat.le_trans hB b0.size) (own_rowB (own_one 5 W W.heap.size z (Nat.le_refl _)) (by intro y hy; simp at hy; subst hy; exact hz')) (by simp) (by simp; omega)
  exact wp_app ho hs hx hr (hK _ _ (h v' w' (.inl ho') ((b0.mono hB).trans hg)))
set_option maxHeartbeats 400000 in
theorem putNumberF_any (v : Value) (zs : List Int) (x : Int) (size : Nat) (B : Nat) (w : World) (hown : OwnF w B v zs) (hB : B ≤ w.heap.size) (hs : size ≤ 4) (hlen : zs.length ≤ 900000) :
    Calls Tryz.prog 103 #[v, .int .i64 x, .int .i64 size] w fun e w' => ∃ v', e = .returned v' ∧ OwnF w' B v' (zs ++ nums x size size) ∧ Below B w w' := by
  obtain ⟨i0, hi, hz0, hz1, hz2⟩ := info_parts Sl.info5
  have hs0 : (size : Int) ≤ 4 := by omega
  have HS : Hid (size ≤ 4) := hs
  have HL : Hid (zs.length ≤ 900000) := hlen
  clear hs hlen
  go_enter Tryz.func103, Tryz.ntmps103
  go_wp2_with fail
  go_loopw [0, 7] (fun b i wr => ∃ (k : Nat) (q : Int), Hid ((k : Int) + q + 1 = size ∧ k ≤ size) ∧ -1 ≤ q ∧ q ≤ 3 ∧ i = .int .i64 q ∧ Hid (OwnF wr B b (zs ++ nums x size k) ∧ Below B w wr)) (fun _ i _ => (intOf i + 1).toNat)
  case atStart => exact ⟨0, (size : Int) - 1, ⟨by omega, by omega⟩, by omega, by omega, by go_num, ⟨by simpa [nums] using hown, Below.refl _ _⟩⟩
  case round =>
    clear hown hs0
    obtain ⟨k, q, HQ, hq0, hq1, rfl, HO⟩ := hrel
    by_cases hlt : 0 ≤ q
    · have hl : (zs ++ nums x size k).length ≤ 1000000 := by rw [List.length_append, nums_length]; have := HQ.out; have := HL.out; have := HS.out; omega
      go_wp2_with (at_builtin; go_must (refine list_oneF (by rfl) _ _ 86 (by rfl) Tryz.underlying86 hi hz0 hz1 hz2 B _ _ _ (zs ++ nums x size k) (by rfl) (by rfl) HO.out.1 (Nat.le_trans hB HO.out.2.size) (by omega) hl ?_; intro v' w' hown' hkp'))
      have e : x / 2 ^ (8 * q).toNat % 256 = nb x (size - 1 - k) := by
        unfold nb
        rw [show (8 * q).toNat = 8 * (size - 1 - k) by have := HQ.out; omega]
      rw [e, List.append_assoc, ← nums_succ] at hown'
      exact ⟨⟨k + 1, q - 1, ⟨by have := HQ.out; omega, by have := HQ.out; omega⟩, by omega, by omega, rfl, ⟨hown', HO.out.2.trans hkp'⟩⟩, by simp [intOf]; omega⟩
    · have hk : k = size := by have := HQ.out; omega
      have HK : Hid (k = size) := hk
      clear hk
      rw [HK.out] at HO
      go_wp2
      go_ret
      exact ⟨_, rfl, HO.out.1, HO.out.2⟩
end Go.Proofs.YtnebohdlndiejaaGreatDoor.Fu

/- Marks of readings, of the program and of the specification. -/
namespace Go.Proofs.YtnebohdlndiejaaGreatDoor.Mr
open Go.RowKit Go.Proofs.YtnebohdlndiejaaGreatDoor.Sl Go.Proofs.YtnebohdlndiejaaGreatDoor.By Go.Proofs.YtnebohdlndiejaaGreatDoor.Ap Go.Proofs.YtnebohdlndiejaaGreatDoor.Tx Go.Proofs.YtnebohdlndiejaaGreatDoor.Sh Go.Proofs.YtnebohdlndiejaaGreatDoor.Ho Go.Proofs.YtnebohdlndiejaaGreatDoor.Fz Go.Proofs.YtnebohdlndiejaaGreatDoor.Pu Go.Proofs.YtnebohdlndiejaaGreatDoor.Fu

def bNK : ByteArray := ⟨#[110, 111, 100, 101, 32, 107, 101, 121]⟩
def bClock : List Int := [99, 108, 111, 99, 107]
/-- A node's secret; its mark under some bytes; a reading's mark. -/
def nsec (id : Nat) : ByteArray := hashS (bys bNK ++ [(id : Int)])
def mac (id : Nat) (xs : List Int) : ByteArray := (hashS (bys (nsec id) ++ xs)).extract 0 8
def rmk (id : Nat) (x : Int) : ByteArray := mac id (bClock ++ nums x 4 4)
theorem hash_size (xs : List Int) (h : xs.length ≤ 65536) : (hashS xs).size = 32 := by
  unfold hashS
  rw [if_neg (by omega), strOfNums_size]
  show (outTo _ 8).length = 32
  rw [outTo_length]
theorem nsec_size (id : Nat) : (nsec id).size = 32 := by
  unfold nsec
  apply hash_size
  rw [List.length_append, bys_length]
  have : bNK.size = 8 := rfl
  simp only [List.length_cons, List.length_nil]
  omega
theorem nsec_len (id : Nat) : (bys (nsec id)).length = 32 := by rw [bys_length, nsec_size]
theorem rmk_len (x : Int) : (bClock ++ nums x 4 4).length = 9 := by rw [List.length_append, nums_length]; rfl
theorem rmk_range (x : Int) : ∀ z ∈ bClock ++ nums x 4 4, 0 ≤ z ∧ z ≤ 255 := range_append (by decide) (nums_range x 4 4)
theorem hash1_any (v : Value) (xs : List Int) (w : World) (h : RowB w v xs) (hl : xs.length ≤ 65536) :
    Calls Tryz.prog 95 #[v] w fun e w' => e = .returned (.string (hashS xs)) ∧ Below w.heap.size w w' := by
  have e : hashS xs = strOfNums (sha xs) := if_neg (by omega)
  rw [e]
  exact l01Hash_any v xs w h hl
theorem one_range (id : Nat) (h : id < 256) : ∀ z ∈ [(id : Int)], 0 ≤ z ∧ z ≤ 255 := by
  intro z hz
  simp at hz
  subst hz
  omega
theorem run_convert_ownF (w : World) (B : Nat) (v : Value) (zs : List Int) (h : OwnF w B v zs) : (convert 86 9 v).run Tryz.prog w = .ok (.string (strOfNums zs)) w := by
  rcases h with h | ⟨g, rfl, hg, hlt, hc⟩
  · exact By.run_convert_own (P := Tryz.prog) w B 86 5 9 Tryz.underlying86 Tryz.underlying5 Tryz.underlying9 v zs h
  · exact run_convert_bytes_arg w 86 5 Tryz.underlying86 Tryz.underlying5 g 0 zs.length zs.length zs rfl (fun i hi => by rw [Nat.zero_add]; exact hc i hi) 9 Tryz.underlying9
theorem conv_one (id : Nat) (W : World) : (convert 86 9 (.slice (some ⟨W.heap.size, 0, none⟩) 1 1)).run Tryz.prog (W.alloc (.cells #[.int .u8 id] 5)) = .ok (.string (strOfNums [(id : Int)])) (W.alloc (.cells #[.int .u8 id] 5)) :=
  By.run_convert_own (P := Tryz.prog) _ W.heap.size 86 5 9 Tryz.underlying86 Tryz.underlying5 Tryz.underlying9 _ [(id : Int)] (own_lit 5 W W.heap.size [(id : Int)] 1 rfl (Nat.le_refl _) (by decide))

set_option maxRecDepth 100000 in
set_option maxHeartbeats 400000 in
theorem markOf_any (id : Nat) (s : ByteArray) (w : World) (hi : id < 256) (hs : s.size ≤ 60000) (hK : KTab w) (hp : 10 < w.heap.size) :
    Calls Tryz.prog 139 #[.int .i64 id, .string s] w fun e w' => e = .returned (.string (mac id (bys s))) ∧ Below w.heap.size w w' := by
  have hcv := conv_one id
  have w1 : ((id : Int) % 256) = id := by omega
  have HE : Hid (hashS (cat [bNK, strOfNums [(id : Int)]]) = nsec id) := by
    show _ = _
    unfold cat nsec
    simp only [List.flatMap_cons, List.flatMap_nil, List.append_nil]
    rw [bys_str _ (one_range id hi)]
  have HL : Hid ((cat [bNK, strOfNums [(id : Int)]]).length ≤ 1000000000) := by
    show _ ≤ _
    unfold cat
    simp only [List.flatMap_cons, List.flatMap_nil, List.append_nil]
    rw [bys_str _ (one_range id hi), List.length_append, bys_length]
    have : bNK.size = 8 := rfl
    simp only [List.length_cons, List.length_nil]
    omega
  have HF : Hid (cat [nsec id, s] = bys (nsec id) ++ bys s) := by
    show _ = _
    unfold cat
    simp only [List.flatMap_cons, List.flatMap_nil, List.append_nil]
  have HG : Hid ((bys (nsec id) ++ bys s).length ≤ 60032) := by
    show _ ≤ _
    rw [List.length_append, nsec_len, bys_length]; omega
  have HM : Hid ((hashS (bys (nsec id) ++ bys s)).extract 0 8 = mac id (bys s)) := rfl
  have GK : Hid (KTab w) := hK
  clear hK
  generalize strOfNums [(id : Int)] = z at hcv HE HL
  go_enter Tryz.func139, Tryz.ntmps139
  go_wp2_with fail
  refine (hashOf_lit (w.alloc (.cells #[.int .u8 id] 5)) _ 2 (size_new _ _) _ [bNK, z] rfl rfl (by decide) (by decide) HL.out (GK.out.below (bel_new _ _) hp) (by rw [size_new]; omega)).mono ?_
  rintro e w2 ⟨rfl, b2⟩
  rw [HE.out]
  have B2 : Hid (Below w.heap.size w w2) := (bel_new w _).trans (b2.mono (by rw [size_new]; omega))
  clear b2 hcv HE HL
  generalize nsec id = t at HF HG HM
  go_wp2_with fail
  refine (hashOf_lit w2 _ 2 rfl _ [t, s] rfl rfl (by decide) (by decide) (by rw [HF.out]; have := HG.out; omega) (GK.out.below B2.out hp) (Nat.lt_of_lt_of_le hp B2.out.size)).mono ?_
  rintro e w3 ⟨rfl, b3⟩
  rw [HF.out]
  have B3 : Hid (Below w.heap.size w w3) := B2.out.trans (b3.mono B2.out.size)
  have hz : (hashS (bys t ++ bys s)).size = 32 := hash_size _ (by have := HG.out; omega)
  clear b3 HF HG
  generalize hashS (bys t ++ bys s) = q at HM hz
  have hz8 : (8 : Int) ≤ (q.size : Int) := by omega
  clear hz
  go_wp2_with fail
  go_ret
  exact ⟨Tx.ret_str HM.out, B3.out⟩

set_option maxRecDepth 100000 in
set_option maxHeartbeats 400000 in
theorem l04Secret_any (id : Nat) (w : World) (hi : id < 256) :
    Calls Tryz.prog 129 #[.int .i64 id] w fun e w' => e = .returned (.string (nsec id)) ∧ Below w.heap.size w w' := by
  have hcv := conv_one id
  have w1 : ((id : Int) % 256) = id := by omega
  have HE : Hid (bys (bNK ++ strOfNums [(id : Int)]) = bys bNK ++ [(id : Int)]) := by
    show _ = _
    rw [bys_append, bys_str _ (one_range id hi)]
  have HL : Hid ((bys bNK ++ [(id : Int)]).length ≤ 65536) := by
    show _ ≤ _
    rw [List.length_append, bys_length]
    have : bNK.size = 8 := rfl
    simp only [List.length_cons, List.length_nil]
    omega
  have HM : Hid (hashS (bys bNK ++ [(id : Int)]) = nsec id) := rfl
  have hz1 : (strOfNums [(id : Int)]).size = 1 := by rw [strOfNums_size]; rfl
  have hA : ¬ 9223372036854775807 < (⟨#[110, 111, 100, 101, 32, 107, 101, 121]⟩ : ByteArray).size + (strOfNums [(id : Int)]).size := by have : (⟨#[110, 111, 100, 101, 32, 107, 101, 121]⟩ : ByteArray).size = 8 := rfl; omega
  have hA' : ¬ 9223372036854775807 < 8 + (strOfNums [(id : Int)]).size := by omega
  clear hz1
  generalize strOfNums [(id : Int)] = z at hcv HE hA hA'
  obtain ⟨v2, w2, hc2, r2, b2⟩ := bytes_run (bNK ++ z) (w.alloc (.cells #[.int .u8 id] 5))
  have hc2' : (convert 9 86 (.string ((⟨#[110, 111, 100, 101, 32, 107, 101, 121]⟩ : ByteArray) ++ z))).run Tryz.prog (w.alloc (.cells #[.int .u8 id] 5)) = .ok v2 w2 := hc2
  have R2 : Hid (RowB w2 v2 (bys (bNK ++ z))) := r2
  have B2 : Hid (Below w.heap.size w w2) := (bel_new w _).trans (b2.mono (by rw [size_new]; omega))
  clear hc2 r2 b2
  go_enter Tryz.func129, Tryz.ntmps129
  go_wp2_with fail
  refine (hash1_any v2 _ w2 R2.out (by rw [HE.out]; exact HL.out)).mono ?_
  rintro e w3 ⟨rfl, b3⟩
  rw [HE.out, HM.out]
  go_wp2_with fail
  go_ret
  exact ⟨rfl, B2.out.trans (b3.mono B2.out.size)⟩

set_option maxRecDepth 100000 in
set_option maxHeartbeats 400000 in
theorem l04Mac_any (id : Nat) (v : Value) (xs : List Int) (w : World) (hi : id < 256) (h : RowB w v xs) (hne : xs ≠ []) (hl : xs.length ≤ 60000) :
    Calls Tryz.prog 98 #[.int .i64 id, v] w fun e w' => e = .returned (.string (mac id xs)) ∧ Below w.heap.size w w' := by
  obtain ⟨i0, hi0, hz0, hz1, hz2⟩ := info_parts Sl.info5
  have HR : Hid (RowB w v xs) := h
  have HX : Hid (xs ≠ [] ∧ xs.length ≤ 60000) := ⟨hne, hl⟩
  have HM : Hid ((hashS (bys (nsec id) ++ xs)).extract 0 8 = mac id xs) := rfl
  clear h hne hl
  go_enter Tryz.func98, Tryz.ntmps98
  go_wp2_with fail
  refine (l04Secret_any id w hi).mono ?_
  rintro e w1 ⟨rfl, b1⟩
  have hts := nsec_size id
  have htl := nsec_len id
  generalize nsec id = t at HM hts htl
  obtain ⟨cap, hcv, hcn, b2, hs2⟩ := conv_run t w1
  have HT : Hid (t.size = 32 ∧ (bys t).length = 32) := ⟨hts, htl⟩
  have HB2 : Hid (Below w1.heap.size w1 (Lib.bytesWorld w1 5 t)) := b2
  have HB1 : Hid (Below w.heap.size w w1) := b1
  obtain ⟨v3, w3, hap, r3, b3⟩ := run_conv (P := Tryz.prog) 86 86 Tryz.underlying86 hi0 hz0 hz1 hz2 w1.heap.size w1.heap.size cap t.size (Lib.bytesWorld w1 5 t) v (bys t) xs (by rw [bys_length]) hcn (Nat.le_refl _) ((HR.out.below b1).below b2) HX.out.1 (bys_range t) (by have := HX.out.2; omega)
  have R3 : Hid (RowB w3 v3 (bys t ++ xs)) := r3
  have B3 : Hid (Below w.heap.size w w3) := (b1.trans (b2.mono b1.size)).trans (b3.mono b1.size)
  clear b1 b2 b3 r3 hcn hs2 hts htl HB1 HB2
  generalize Lib.bytesWorld w1 5 t = wc at hcv hap
  go_wp2_with (at_builtin; go_must (refine wpList_plain (by rfl) fun K hK => ?_; refine wp_app (by rfl) (by rfl) (by rfl) hap (hK _ _ ?_)))
  refine (hash1_any v3 _ w3 R3.out (by rw [List.length_append, HT.out.2]; have := HX.out.2; omega)).mono ?_
  rintro e w4 ⟨rfl, b4⟩
  have B4 : Hid (Below w.heap.size w w4) := B3.out.trans (b4.mono B3.out.size)
  have hz : (hashS (bys t ++ xs)).size = 32 := hash_size _ (by rw [List.length_append, HT.out.2]; have := HX.out.2; omega)
  clear b4
  generalize hashS (bys t ++ xs) = q at HM hz
  have hz8 : (8 : Int) ≤ (q.size : Int) := by omega
  clear hz
  go_wp2_with fail
  go_ret
  exact ⟨Tx.ret_str HM.out, B4.out⟩
end Go.Proofs.YtnebohdlndiejaaGreatDoor.Mr

/- ReadingMac, of the program and of the specification. -/
namespace Go.Proofs.YtnebohdlndiejaaGreatDoor.Rm
open Go.RowKit Go.Proofs.YtnebohdlndiejaaGreatDoor.Sl Go.Proofs.YtnebohdlndiejaaGreatDoor.By Go.Proofs.YtnebohdlndiejaaGreatDoor.Ap Go.Proofs.YtnebohdlndiejaaGreatDoor.Tx Go.Proofs.YtnebohdlndiejaaGreatDoor.Sh Go.Proofs.YtnebohdlndiejaaGreatDoor.Ho Go.Proofs.YtnebohdlndiejaaGreatDoor.Mr

def inR (n a b : Int) : Bool := decide (a ≤ n) && decide (n ≤ b)
theorem ret_bool {a b : Bool} (h : a = b) : Ending.returned (.bool a) = .returned (.bool b) := by rw [h]
theorem inR_nat {n a b : Int} (h : inR n a b = true) : a ≤ n ∧ n ≤ b := by unfold inR at h; simpa using h
theorem within_any (n a b : Int) (w : World) : Calls Tryz.prog 66 #[.int .i64 n, .int .i64 a, .int .i64 b] w fun e w' => e = .returned (.bool (inR n a b)) ∧ w = w' := by
  by_cases h1 : a ≤ n
  · by_cases h2 : n ≤ b
    · have HE : Hid (inR n a b = true) := by show _ = _; unfold inR; rw [decide_eq_true h1, decide_eq_true h2]; rfl
      go_enter Tryz.func66, Tryz.ntmps66
      go_wp2
      go_ret
      exact ⟨ret_bool HE.out.symm, rfl⟩
    · have HE : Hid (inR n a b = false) := by show _ = _; unfold inR; rw [decide_eq_false h2, Bool.and_false]
      go_enter Tryz.func66, Tryz.ntmps66
      go_wp2
      go_ret
      exact ⟨ret_bool HE.out.symm, rfl⟩
  · have HE : Hid (inR n a b = false) := by show _ = _; unfold inR; rw [decide_eq_false h1, Bool.false_and]
    go_enter Tryz.func66, Tryz.ntmps66
    go_wp2
    go_ret
    exact ⟨ret_bool HE.out.symm, rfl⟩
theorem l01In_any (n a b : Int) (w : World) : Calls Tryz.prog 29 #[.int .i64 n, .int .i64 a, .int .i64 b] w fun e w' => e = .returned (.bool (inR n a b)) ∧ w = w' := by
  by_cases h1 : a ≤ n
  · by_cases h2 : n ≤ b
    · have HE : Hid (inR n a b = true) := by show _ = _; unfold inR; rw [decide_eq_true h1, decide_eq_true h2]; rfl
      go_enter Tryz.func29, Tryz.ntmps29
      go_wp2
      go_ret
      exact ⟨ret_bool HE.out.symm, rfl⟩
    · have HE : Hid (inR n a b = false) := by show _ = _; unfold inR; rw [decide_eq_false h2, Bool.and_false]
      go_enter Tryz.func29, Tryz.ntmps29
      go_wp2
      go_ret
      exact ⟨ret_bool HE.out.symm, rfl⟩
  · have HE : Hid (inR n a b = false) := by show _ = _; unfold inR; rw [decide_eq_false h1, Bool.false_and]
    go_enter Tryz.func29, Tryz.ntmps29
    go_wp2
    go_ret
    exact ⟨ret_bool HE.out.symm, rfl⟩
theorem ret_sc {s t : ByteArray} {a b : Int} (h : s = t ∧ a = b) : Ending.returned (.tuple #[.string s, .int .i64 a]) = .returned (.tuple #[.string t, .int .i64 b]) := by rw [h.1, h.2]
/-- What ReadingMac answers. -/
def okM (f x : Int) : Bool := inR f 0 6 && inR x 0 1000000000
def rmCode (f x : Int) : Int := if okM f x then 0 else 4
def rmOut (f x : Int) : ByteArray := if okM f x then rmk f.toNat x else ⟨#[]⟩
theorem rm_cases (f x : Int) : (inR f 0 6 = false ∧ rmCode f x = 4 ∧ rmOut f x = ⟨#[]⟩) ∨ (inR f 0 6 = true ∧ inR x 0 1000000000 = false ∧ rmCode f x = 4 ∧ rmOut f x = ⟨#[]⟩) ∨ (∃ i : Nat, f = i ∧ i < 7 ∧ inR f 0 6 = true ∧ inR x 0 1000000000 = true ∧ rmCode f x = 0 ∧ rmOut f x = rmk i x) := by
  unfold rmCode rmOut okM
  cases h1 : inR f 0 6 with
  | false => exact .inl ⟨rfl, rfl, rfl⟩
  | true =>
    cases h2 : inR x 0 1000000000 with
    | false => exact .inr (.inl ⟨rfl, rfl, rfl, rfl⟩)
    | true =>
      obtain ⟨a, b⟩ := inR_nat h1
      obtain ⟨i, rfl⟩ := Int.eq_ofNat_of_zero_le a
      exact .inr (.inr ⟨i, rfl, by omega, rfl, rfl, rfl, rfl⟩)
end Go.Proofs.YtnebohdlndiejaaGreatDoor.Rm
