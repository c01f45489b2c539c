/- Bytes that began as a literal: the first append makes a row of the call's own. -/
import Derived.Test.YtiflfcpoajijaaaDoorTz
import Derived.Lib.SlBytesConst
namespace Go.Proofs.YtiflfcpoajijaaaDoor.Fu
open Go.RowKit Go.Proofs.YtiflfcpoajijaaaDoor.Sl Go.Proofs.YtiflfcpoajijaaaDoor.By Go.Proofs.YtiflfcpoajijaaaDoor.Ap Go.Proofs.YtiflfcpoajijaaaDoor.Tx

/-- The slice is a row with no room behind, whatever its mark. -/
def Full (w : World) (B : Nat) (v : Value) (zs : List Int) : Prop :=
  ∃ g, v = .slice (some ⟨g, 0, none⟩) zs.length zs.length ∧ B ≤ g ∧ g < w.heap.size ∧ ∀ j, j < zs.length → w.cell? ⟨g, j, none⟩ = some (.int .u8 (nth zs j))
def OwnF (w : World) (B : Nat) (v : Value) (zs : List Int) : Prop := OwnB 5 w B v zs ∨ Full w B v zs
theorem OwnF.below {w w' : World} {B : Nat} {v : Value} {zs : List Int} (h : OwnF w B v zs) (hb : Below w.heap.size w w') : OwnF w' B v zs := by
  rcases h with h | ⟨g, e, hB, hg, hc⟩
  · exact .inl (own_below h hb)
  · exact .inr ⟨g, e, hB, Nat.lt_of_lt_of_le hg hb.size, fun j hj => (hb.cell (p := ⟨g, j, none⟩) hg).trans (hc j hj)⟩
theorem OwnF.rowB {w : World} {B : Nat} {v : Value} {zs : List Int} (h : OwnF w B v zs) (hr : ∀ z ∈ zs, 0 ≤ z ∧ z ≤ 255) : RowB w v zs := by
  rcases h with h | ⟨g, rfl, hB, hg, hc⟩
  · exact own_rowB h hr
  · refine ⟨_, _, rfl, .inr ⟨g, 0, rfl, Nat.le_refl _, hg, fun i hi => ?_⟩, hr⟩
    rw [Nat.zero_add]
    exact hc i hi
theorem OwnF.drew {w : World} {B : Nat} {v : Value} {zs : List Int} (h : OwnF w B v zs) : OwnF w.drew B v zs := h
/-- '[]byte("..")' of a constant. -/
theorem full_lit (w : World) (zs : List Int) (n : Nat) (hn : zs.length = n) (cs : Array Value) (hcs : cs = (zs.map (Value.int .u8)).toArray) (fr : Nat × Nat) : OwnF (w.alloc (.cells cs 5 fr)) w.heap.size (.slice (some ⟨w.heap.size, 0, none⟩) n n) zs := by
  subst hn hcs
  refine .inr ⟨w.heap.size, rfl, Nat.le_refl _, by simp, fun j hj => ?_⟩
  rw [Joins.cell_of_block (heap_alloc_new w _) j, List.getElem?_toArray, List.getElem?_map, List.getElem?_eq_getElem hj]
  unfold nth
  rw [List.getD_eq_getElem?_getD, List.getElem?_eq_getElem hj]
  rfl
theorem run_strF {P : Program} {i : TypeInfo} (t tx ty : TypeId) (ht : P.underlying t = some (.slice 5)) (htx : P.underlying tx = some .string) (hi : P.info? 5 = some i) (hz : i.zero = some (.int .u8 0)) (hsize : i.size = 1) (hby : i.bytes = 1)
    (B : Nat) (W : World) (v : Value) (s : ByteArray) (zs : List Int) (hown : OwnF W B v zs) (hB : B ≤ W.heap.size) (hlen : zs.length + s.size ≤ 1000000000) (hs : 0 < s.size) :
    ∃ v' w', (Builtin.append_ #[t, tx] ty #[v, .string s]).run P W = .ok v' w' ∧ OwnB 5 w' B v' (zs ++ bys s) ∧ Below B W w' := by
  rcases hown with hown | ⟨g, rfl, hg, hlt, hc⟩
  · obtain ⟨v', w', h1, h2, h3⟩ := run_str (P := P) t tx ty ht htx hi hz hsize hby B W v s zs hown hB (by omega)
    exact ⟨v', w', h1, h2, h3.below hown hB⟩
  · have holds : ∀ j u, (zs.map (Value.int .u8))[j]? = some u → W.cell? ((⟨g, 0, none⟩ : Addr).add j) = some u := by
      intro j u hj
      have hj' : j < zs.length := by have := (List.getElem?_eq_some_iff.1 hj).1; simpa using this
      rw [addr_add, Nat.zero_add, hc j hj', ← hj, List.getElem?_map, List.getElem?_eq_getElem hj']
      unfold nth
      rw [List.getD_eq_getElem?_getD, List.getElem?_eq_getElem hj']
      rfl
    have hr := Lib.run_append_grow_string (P := P) W t tx ty 5 i (.int .u8 0) ht htx hi hz ⟨g, 0, none⟩ zs.length zs.length (zs.map (Value.int .u8)) (by rw [hsize]; simp) holds s (by omega) (by omega) (by rw [hby]; exact growslice_fits (by omega) (by omega))
    refine ⟨_, _, hr, ?_, ⟨rfl, rfl, rfl, by simp, fun k hk => heap_alloc_old W.drew _ (show k < W.heap.size by omega)⟩⟩
    have hge := grownCap_ge W (zs.length + s.size) zs.length 5
    have hcm : grownCap W (zs.length + s.size) zs.length 5 ≤ maxLen := grownCap_le_maxLen W _ _ _ (by unfold maxLen; omega)
    have hl : (zs ++ bys s).length = zs.length + s.size := by rw [List.length_append, bys_length]
    unfold OwnB
    rw [hl, List.map_append, ← str_cells]
    have hlen2 : (zs.map (Value.int .u8) ++ Lib.strCells s).length = (zs.length + s.size) * 1 := by rw [List.length_append, List.length_map, Lib.strCells_length, Nat.mul_one]
    refine ⟨hlen2, .inr ⟨W.heap.size, _, _, rfl, hB, heap_alloc_new W.drew _, hge, hcm, ?_, ?_⟩⟩
    · have hz1 : (Value.int IntKind.u8 0).cells.size = 1 := rfl
      simp only [Array.size_append, List.size_toArray, size_zeroCells, hz1, List.length_map, Lib.strCells_length]
      omega
    · simp only [Array.toList_append, List.append_assoc]
      rw [← List.append_assoc, ← hlen2]
      exact List.take_left
theorem list_strF {P : Program} {i : TypeInfo} {ops : Array Oper} {rest : List Oper} {o : Oper} {a : Act} {Q : Exit → Act → World → Prop} (hgd : o.guard = none) (s x : Operand) (t tx : TypeId) (ho : o.op = .call { callee := .builtin .append, args := #[s, x], argTypes := #[t, tx] }) (ht : P.underlying t = some (.slice 5)) (htx : P.underlying tx = some .string) (hi : P.info? 5 = some i) (hz : i.zero = some (.int .u8 0))
    (hsize : i.size = 1) (hby : i.bytes = 1) (B : Nat) (W : World) (v : Value) (st : ByteArray) (zs : List Int) (hs : a.eval s = v) (hx : a.eval x = .string st) (hown : OwnF W B v zs) (hB : B ≤ W.heap.size) (hlen : zs.length + st.size ≤ 1000000000) (h0 : 0 < st.size)
    (h : ∀ v' w', OwnF w' B v' (zs ++ bys st) → Below B W w' → wpList P ops Q rest (a.put o.dst v') w') : wpList P ops Q (o :: rest) a W := by
  refine wpList_plain hgd fun K hK => ?_
  obtain ⟨v', w', hr, ho', hg⟩ := run_strF (P := P) t tx o.type ht htx hi hz hsize hby B W v st zs hown hB hlen h0
  exact wp_app ho hs hx hr (hK _ _ (h v' w' (.inl ho') hg))
theorem step_strF {P : Program} {i : TypeInfo} {ops : Array Oper} {o : Oper} {a : Act} {K : Act → World → Prop} {Q : Exit → Act → World → Prop} {E : Prop} (hgd : o.guard = none) (s x : Operand) (t tx : TypeId) (ho : o.op = .call { callee := .builtin .append, args := #[s, x], argTypes := #[t, tx] }) (ht : P.underlying t = some (.slice 5)) (htx : P.underlying tx = some .string) (hi : P.info? 5 = some i) (hz : i.zero = some (.int .u8 0))
    (hsize : i.size = 1) (hby : i.bytes = 1) (B : Nat) (W : World) (v : Value) (st : ByteArray) (zs : List Int) (hs : a.eval s = v) (hx : a.eval x = .string st) (hown : OwnF W B v zs) (hB : B ≤ W.heap.size) (hlen : zs.length + st.size ≤ 1000000000) (h0 : 0 < st.size)
    (h : ∀ v' w', OwnF w' B v' (zs ++ bys st) → Below B W w' → K (a.put o.dst v') w') : if Region.wanted o (yielded ops a.tmps) = true then Oper.wp P o a W K Q else E := by
  have hw : Region.wanted o (yielded ops a.tmps) = true := by simp [Region.wanted, hgd]
  rw [if_pos hw]
  obtain ⟨v', w', hr, ho', hg⟩ := run_strF (P := P) t tx o.type ht htx hi hz hsize hby B W v st zs hown hB hlen h0
  exact wp_app ho hs hx hr (h v' w' (.inl ho') hg)
end Go.Proofs.YtiflfcpoajijaaaDoor.Fu
