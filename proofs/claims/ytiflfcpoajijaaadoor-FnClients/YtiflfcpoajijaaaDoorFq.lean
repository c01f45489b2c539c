/- A number's bytes behind a constant's, wherever the constant lies. -/
import Derived.Test.YtiflfcpoajijaaaDoorFp
import Derived.Test.YtiflfcpoajijaaaDoorMr
namespace Go.Proofs.YtiflfcpoajijaaaDoor.Fq
open Go.RowKit Go.Proofs.YtiflfcpoajijaaaDoor.Fu Go.Proofs.YtiflfcpoajijaaaDoor.Sl Go.Proofs.YtiflfcpoajijaaaDoor.By Go.Proofs.YtiflfcpoajijaaaDoor.Ap Go.Proofs.YtiflfcpoajijaaaDoor.Tx Go.Proofs.YtiflfcpoajijaaaDoor.Ho Go.Proofs.YtiflfcpoajijaaaDoor.Fz Go.Proofs.YtiflfcpoajijaaaDoor.Pu

/-- A row of one's own, or a constant with no room behind. -/
def OwnA (w : World) (B : Nat) (v : Value) (zs : List Int) : Prop := OwnB 5 w B v zs ∨ Full w 0 v zs
theorem OwnA.of {w : World} {B : Nat} {v : Value} {zs : List Int} {B' : Nat} (h : Full w B' v zs) : OwnA w B v zs := by
  obtain ⟨g, e, _, h2, h3⟩ := h
  exact .inr ⟨g, e, Nat.zero_le _, h2, h3⟩
theorem OwnA.below {w w' : World} {B : Nat} {v : Value} {zs : List Int} (h : OwnA w B v zs) (hb : Below w.heap.size w w') : OwnA w' B v zs := by
  rcases h with h | ⟨g, e, hB, hg, hc⟩
  · exact .inl (own_below h hb)
  · exact .inr ⟨g, e, hB, Nat.lt_of_lt_of_le hg hb.size, fun j hj => (hb.cell (p := ⟨g, j, none⟩) hg).trans (hc j hj)⟩
theorem OwnA.rowB {w : World} {B : Nat} {v : Value} {zs : List Int} (h : OwnA w B v zs) (hr : ∀ z ∈ zs, 0 ≤ z ∧ z ≤ 255) : RowB w v zs := by
  rcases h with h | ⟨g, rfl, hB, hg, hc⟩
  · exact own_rowB h hr
  · refine ⟨_, _, rfl, .inr ⟨g, 0, rfl, Nat.le_refl _, hg, fun i hi => ?_⟩, hr⟩
    rw [Nat.zero_add]
    exact hc i hi
theorem run_convert_ownA (w : World) (B : Nat) (v : Value) (zs : List Int) (h : OwnA w B v zs) : (convert 22 9 v).run Tryd.prog w = .ok (.string (strOfNums zs)) w := by
  rcases h with h | ⟨g, rfl, hg, hlt, hc⟩
  · exact By.run_convert_own (P := Tryd.prog) w B 22 5 9 Tryd.underlying22 Tryd.underlying5 Tryd.underlying9 v zs h
  · exact run_convert_bytes_arg w 22 5 Tryd.underlying22 Tryd.underlying5 g 0 zs.length zs.length zs rfl (fun i hi => by rw [Nat.zero_add]; exact hc i hi) 9 Tryd.underlying9
/-- '[]byte("..")' of a constant. -/
theorem lit (w : World) (zs : List Int) (n : Nat) (hn : zs.length = n) (cs : Array Value) (hcs : cs = (zs.map (Value.int .u8)).toArray) (fr : Nat × Nat) (B : Nat) : OwnA (w.alloc (.cells cs 5 fr)) B (.slice (some ⟨w.heap.size, 0, none⟩) n n) zs := by
  subst hn hcs
  refine .inr ⟨w.heap.size, rfl, Nat.zero_le _, by simp, fun j hj => ?_⟩
  rw [Joins.cell_of_block (heap_alloc_new w _) j, List.getElem?_toArray, List.getElem?_map, List.getElem?_eq_getElem hj]
  unfold nth
  rw [List.getD_eq_getElem?_getD, List.getElem?_eq_getElem hj]
  rfl
theorem run_rowA {P : Program} {i : TypeInfo} (t ty : TypeId) (ht : P.underlying t = some (.slice 5)) (hi : P.info? 5 = some i) (hz : i.zero = some (.int .u8 0)) (hsize : i.size = 1) (hby : i.bytes = 1)
    (B : Nat) (W : World) (v u : Value) (zs xs : List Int) (hown : OwnA W B v zs) (hB : B ≤ W.heap.size) (hu : RowB W u xs) (hne : xs ≠ []) (hlen : zs.length + xs.length ≤ 1000000000) :
    ∃ v' w', (Builtin.append_ #[t, t] ty #[v, u]).run P W = .ok v' w' ∧ OwnB 5 w' B v' (zs ++ xs) ∧ Below B W w' := by
  rcases hown with hown | ⟨g, rfl, hg, hlt, hc⟩
  · obtain ⟨v', w', h1, h2, h3⟩ := run_row (P := P) t ty ht hi hz hsize hby B W v u zs xs hown hB hu (by omega)
    exact ⟨v', w', h1, h2, h3.below hown hB⟩
  · obtain ⟨a, c, rfl, hu, hrx⟩ := hu
    rcases hu with hu | ⟨b, off, rfl, hcx, hbx, hcell⟩
    · exact absurd hu hne
    have hpos : 0 < xs.length := by cases xs with | nil => exact absurd rfl hne | cons x l => simp
    have hnews : ∀ j v, (xs.map (Value.int .u8))[j]? = some v → W.cell? ((⟨b, off, none⟩ : Addr).add j) = some v := by
      intro j v hj
      have hj' : j < xs.length := by have := (List.getElem?_eq_some_iff.1 hj).1; simpa using this
      rw [addr_add, hcell j hj', ← hj, List.getElem?_map, nth8 hj']
      rfl
    have holds : ∀ j u, (zs.map (Value.int .u8))[j]? = some u → W.cell? ((⟨g, 0, none⟩ : Addr).add j) = some u := by
      intro j u hj
      have hj' : j < zs.length := by have := (List.getElem?_eq_some_iff.1 hj).1; simpa using this
      rw [addr_add, Nat.zero_add, hc j hj', ← hj, List.getElem?_map, nth8 hj']
      rfl
    have hr := run_append_grow (P := P) W t ty 5 i (.int .u8 0) ht hi hz ⟨g, 0, none⟩ zs.length zs.length (zs.map (Value.int .u8)) (by rw [hsize]; simp) holds ⟨b, off, none⟩ xs.length c (xs.map (Value.int .u8)) (by rw [hsize]; simp) hnews (by omega) (by omega) (by rw [hby]; exact growslice_fits (by omega) (by omega))
    refine ⟨_, _, hr, ?_, ⟨rfl, rfl, rfl, by simp, fun k hk => heap_alloc_old W.drew _ (show k < W.heap.size by omega)⟩⟩
    have hge := grownCap_ge W (zs.length + xs.length) zs.length 5
    have hcm : grownCap W (zs.length + xs.length) zs.length 5 ≤ maxLen := grownCap_le_maxLen W _ _ _ (by unfold maxLen; omega)
    have hl : (zs ++ xs).length = zs.length + xs.length := List.length_append
    unfold OwnB
    rw [hl, List.map_append]
    have hlen2 : (zs.map (Value.int .u8) ++ xs.map (Value.int .u8)).length = (zs.length + xs.length) * 1 := by simp
    refine ⟨hlen2, .inr ⟨W.heap.size, _, _, rfl, hB, heap_alloc_new W.drew _, hge, hcm, ?_, ?_⟩⟩
    · have hz1 : (Value.int IntKind.u8 0).cells.size = 1 := rfl
      simp only [Array.size_append, List.size_toArray, size_zeroCells, hz1, List.length_map]
      omega
    · simp only [Array.toList_append, List.append_assoc]
      rw [← List.append_assoc, ← hlen2]
      exact List.take_left
theorem list_oneA {P : Program} {i : TypeInfo} {ops : Array Oper} {rest : List Oper} {o : Oper} {a : Act} {Q : Exit → Act → World → Prop} (hgd : o.guard = none) (s x : Operand) (t : TypeId) (ho : o.op = .call { callee := .builtin .append, args := #[s, x], argTypes := #[t, t] }) (ht : P.underlying t = some (.slice 5)) (hi : P.info? 5 = some i) (hz : i.zero = some (.int .u8 0))
    (hsize : i.size = 1) (hby : i.bytes = 1) (B : Nat) (W : World) (v : Value) (z : Int) (zs : List Int) (hs : a.eval s = v) (hx : a.eval x = .slice (some ⟨W.heap.size, 0, none⟩) 1 1) (hown : OwnA W B v zs) (hB : B ≤ W.heap.size) (hz' : 0 ≤ z ∧ z ≤ 255) (hlen : zs.length ≤ 1000000)
    (h : ∀ v' w', OwnB 5 w' B v' (zs ++ [z]) → Below B W w' → wpList P ops Q rest (a.put o.dst v') w') : wpList P ops Q (o :: rest) a (W.alloc (.cells #[.int .u8 z] 5)) := by
  have b0 := bel_new W (.cells #[.int .u8 z] 5)
  refine wpList_plain hgd fun K hK => ?_
  obtain ⟨v', w', hr, ho', hg⟩ := run_rowA (P := P) t o.type ht hi hz hsize hby B _ v _ zs [z] (OwnA.below hown b0) (Nat.le_trans hB b0.size) (own_rowB (own_one 5 W W.heap.size z (Nat.le_refl _)) (by intro y hy; simp at hy; subst hy; exact hz')) (by simp) (by simp; omega)
  exact wp_app ho hs hx hr (hK _ _ (h v' w' ho' ((b0.mono hB).trans hg)))
set_option maxHeartbeats 400000 in
theorem putNumberA_any (v : Value) (zs : List Int) (x : Int) (size : Nat) (B : Nat) (w : World) (hown : OwnA w B v zs) (hB : B ≤ w.heap.size) (hs : size ≤ 4) (hlen : zs.length ≤ 900000) :
    Calls Tryd.prog 33 #[v, .int .i64 x, .int .i64 size] w fun e w' => ∃ v', e = .returned v' ∧ OwnA w' B v' (zs ++ nums x size size) ∧ Below B w w' := by
  obtain ⟨i0, hi, hz0, hz1, hz2⟩ := info_parts Sl.info5
  have hs0 : (size : Int) ≤ 4 := by omega
  have HS : Hid (size ≤ 4) := hs
  have HL : Hid (zs.length ≤ 900000) := hlen
  clear hs hlen
  go_enter Tryd.func33, Tryd.ntmps33
  go_wp2_with fail
  go_loopw [0, 7] (fun b i wr => ∃ (k : Nat) (q : Int), Hid ((k : Int) + q + 1 = size ∧ k ≤ size) ∧ -1 ≤ q ∧ q ≤ 3 ∧ i = .int .i64 q ∧ Hid (OwnA wr B b (zs ++ nums x size k) ∧ Below B w wr)) (fun _ i _ => (intOf i + 1).toNat)
  case atStart => exact ⟨0, (size : Int) - 1, ⟨by omega, by omega⟩, by omega, by omega, by go_num, ⟨by simpa [nums] using hown, Below.refl _ _⟩⟩
  case round =>
    clear hown hs0
    obtain ⟨k, q, HQ, hq0, hq1, rfl, HO⟩ := hrel
    by_cases hlt : 0 ≤ q
    · have hl : (zs ++ nums x size k).length ≤ 1000000 := by rw [List.length_append, nums_length]; have := HQ.out; have := HL.out; have := HS.out; omega
      go_wp2_with (at_builtin; go_must (refine list_oneA (by rfl) _ _ 22 (by rfl) Tryd.underlying22 hi hz0 hz1 hz2 B _ _ _ (zs ++ nums x size k) (by rfl) (by rfl) HO.out.1 (Nat.le_trans hB HO.out.2.size) (by omega) hl ?_; intro v' w' hown' hkp'))
      have e : x / 2 ^ (8 * q).toNat % 256 = nb x (size - 1 - k) := by
        unfold nb
        rw [show (8 * q).toNat = 8 * (size - 1 - k) by have := HQ.out; omega]
      rw [e, List.append_assoc, ← nums_succ] at hown'
      exact ⟨⟨k + 1, q - 1, ⟨by have := HQ.out; omega, by have := HQ.out; omega⟩, by omega, by omega, rfl, ⟨.inl hown', HO.out.2.trans hkp'⟩⟩, by simp [intOf]; omega⟩
    · have hk : k = size := by have := HQ.out; omega
      have HK : Hid (k = size) := hk
      clear hk
      rw [HK.out] at HO
      go_wp2
      go_ret
      exact ⟨_, rfl, HO.out.1, HO.out.2⟩
/-- The mark that a constant's row gets, wherever it lies. -/
theorem run_const (W : World) (g : Nat) (C : Array Value) (n c : Nat) (h : W.heap[g]? = some (.cells C 5 (0, 0))) : (convert 22 22 (.slice (some ⟨g, 0, none⟩) n c)).run Tryd.prog W = .ok (.slice (some ⟨g, 0, none⟩) n c) (W.freeze ⟨g, C.size, none⟩ 1) := by
  have hsh : W.shape? g = some (5, C.size) := by unfold World.shape?; rw [h]
  simp [convert, run_underlying (P := Tryd.prog) Tryd.underlying22, run_underlying (P := Tryd.prog) Tryd.underlying5, markStringish, hsh]
theorem freeze_heap (W : World) (g k : Nat) (j : Nat) (h : j ≠ g) : (W.freeze ⟨g, k, none⟩ 1).heap[j]? = W.heap[j]? := by
  unfold World.freeze
  rw [if_neg (by decide)]
  simp only [Array.getElem?_modify]
  rw [if_neg (by omega)]
theorem freeze_size (W : World) (g k : Nat) : (W.freeze ⟨g, k, none⟩ 1).heap.size = W.heap.size := by
  unfold World.freeze
  rw [if_neg (by decide)]
  simp
theorem freeze_below {B : Nat} {w W : World} {g k : Nat} (hg : B ≤ g) (h : Below B w W) : Below B w (W.freeze ⟨g, k, none⟩ 1) := by
  refine h.trans ⟨?_, ?_, ?_, ?_, fun j hj => freeze_heap W g k j (by omega)⟩
  · unfold World.freeze; rw [if_neg (by decide)]
  · unfold World.freeze; rw [if_neg (by decide)]
  · unfold World.freeze; rw [if_neg (by decide)]
  · rw [freeze_size]; exact Nat.le_refl _
theorem freeze_own {B : Nat} {W : World} {g : Nat} {C : Array Value} {k : Nat} (zs : List Int) (n : Nat) (hn : zs.length = n) (hC : C = (zs.map (Value.int .u8)).toArray) (h : W.heap[g]? = some (.cells C 5 (0, 0))) : OwnA (W.freeze ⟨g, k, none⟩ 1) B (.slice (some ⟨g, 0, none⟩) n n) zs := by
  subst hn hC
  have hg := (Array.getElem?_eq_some_iff.1 h).1
  refine .inr ⟨g, rfl, Nat.zero_le _, by rw [freeze_size]; exact hg, fun j hj => ?_⟩
  have h2 : (W.freeze ⟨g, k, none⟩ 1).heap[g]? = some (.cells (zs.map (Value.int .u8)).toArray 5 (k, k + 1)) := by
    unfold World.freeze
    rw [if_neg (by decide)]
    simp only [Array.getElem?_modify]
    rw [if_pos trivial, h]
    rfl
  rw [Joins.cell_of_block h2 j, List.getElem?_toArray, List.getElem?_map, List.getElem?_eq_getElem hj]
  unfold nth
  rw [List.getD_eq_getElem?_getD, List.getElem?_eq_getElem hj]
  rfl
end Go.Proofs.YtiflfcpoajijaaaDoor.Fq
