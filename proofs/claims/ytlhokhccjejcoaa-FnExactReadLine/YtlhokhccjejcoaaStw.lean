/- A box of many cells: stored whole, loaded whole. -/
import Derived.Test.YtlhokhccjejcoaaTz
import Derived.Deep.MidRow
import Derived.Laws.ResultCell
namespace Go.Proofs.Ytlhokhccjejcoaa.Stw
open Go.RowKit Go.Proofs.Ytlhokhccjejcoaa.Tx

def setR : Array Value → Nat → List Value → Array Value
  | zs, _, [] => zs
  | zs, o, v :: r => setR (zs.setIfInBounds o v) (o + 1) r
theorem setR_list : ∀ (vs : List Value) (zs : Array Value) (o : Nat), o + vs.length = zs.size → (setR zs o vs).toList = zs.toList.take o ++ vs
  | [], zs, o, h => by
    show zs.toList = _
    rw [List.take_of_length_le (by simp at h ⊢; omega), List.append_nil]
  | v :: r, zs, o, h => by
    show (setR (zs.setIfInBounds o v) (o + 1) r).toList = _
    simp only [List.length_cons] at h
    rw [setR_list r _ (o + 1) (by rw [Array.size_setIfInBounds]; omega), Array.toList_setIfInBounds, List.take_add_one, List.take_set_of_le (Nat.le_refl o)]
    have : (zs.toList.set o v)[o]? = some v := List.getElem?_set_self (by simp; omega)
    rw [this]
    simp
theorem setR_all {zs vs : Array Value} (h : zs.size = vs.size) : setR zs 0 vs.toList = vs := by
  apply Array.toList_inj.1
  rw [setR_list _ _ _ (by simp [h])]
  simp
theorem cells_blk {b : Nat} {t : TypeId} : ∀ (vs : List Value) (zs : Array Value) (o : Nat) (w : World), w.heap[b]? = some (.cells zs t (0, 0)) → (w.setCells b o vs).heap[b]? = some (.cells (setR zs o vs) t (0, 0))
  | [], _, _, _, h => h
  | v :: r, zs, o, _, h => cells_blk r (zs.setIfInBounds o v) (o + 1) _ (blk_set h o v)
theorem cells_far {b k : Nat} (hk : k ≠ b) : ∀ (vs : List Value) (o : Nat) (w : World), (w.setCells b o vs).heap[k]? = w.heap[k]?
  | [], _, _ => rfl
  | v :: r, o, w => (cells_far hk r (o + 1) (w.setCell ⟨b, o, none⟩ v)).trans (blk_far hk o v)
theorem cells_bel {B b : Nat} {w0 : World} (hB : B ≤ b) : ∀ (vs : List Value) (o : Nat) (w : World), Below B w0 w → Below B w0 (w.setCells b o vs)
  | [], _, _, h => h
  | v :: r, o, _, h => cells_bel hB r (o + 1) _ (Below.setCell h (p := ⟨b, o, none⟩) hB v)
/-- A box is written whole. -/
theorem wpList_box {P : Program} {ops : Array Oper} {rest : List Oper} {op : Oper} {a : Act} {w : World} {Q : Exit → Act → World → Prop} (hgd : op.guard = none) (ty : TypeId) (x y : Operand) (ho : op.op = .store ty x y)
    (b : Nat) (zs vs : Array Value) (t : TypeId) (hx : a.eval x = .pointer (some ⟨b, 0, none⟩)) (hy : a.eval y = .agg vs) (hb : w.heap[b]? = some (.cells zs t (0, 0))) (hz : zs.size = vs.size)
    (hi : (P.info? ty).map (·.size) = some vs.size) (h1 : vs.all (·.oneCell') = true)
    (h : ∀ w', w'.heap[b]? = some (.cells vs t (0, 0)) → (∀ k, k ≠ b → w'.heap[k]? = w.heap[k]?) → (∀ {B : Nat} {w0 : World}, Below B w0 w → B ≤ b → Below B w0 w') → wpList P ops Q rest (a.put op.dst undef) w') : wpList P ops Q (op :: rest) a w := by
  refine wpList_store_mid hgd ty x y ho b 0 vs hx hy (fun j hj => ?_) hi h1 (h _ ?_ (fun k hk => cells_far hk _ _ _) (fun hb2 hB => cells_bel hB _ _ _ hb2))
  · have hj' : j < zs.size := by omega
    have := blk_cell hb j (x := zs[j]) (by rw [Array.getElem?_eq_getElem hj'])
    rw [Nat.zero_add]
    exact ⟨by rw [this.1]; rfl, this.2⟩
  · have := cells_blk vs.toList zs 0 w hb
    rwa [setR_all hz] at this
/-- A box is read whole. -/
theorem load_box {P : Program} {w : World} {b : Nat} {vs : Array Value} {t : TypeId} (hb : w.heap[b]? = some (.cells vs t (0, 0))) (ty : TypeId) (hu : (P.underlying ty).map TypeDesc.isRow = some true) (hi : (P.info? ty).map (·.size) = some vs.size) :
    (loadVar ty ⟨b, 0, none⟩).run P w = .ok (.agg vs) w := by
  obtain ⟨d, hu, hd⟩ := Option.map_eq_some_iff.1 hu
  have := run_loadVar_mid (P := P) w b 0 ty vs.toList d (fun j v hv => by rw [Nat.zero_add]; exact (blk_cell hb j (by simpa using hv)).1) hu hd (by simpa using hi)
  simpa using this
theorem load_at {P : Program} {w : World} {b : Nat} {vs : Array Value} {t : TypeId} (hb : w.heap[b]? = some (.cells vs t (0, 0))) (ty : TypeId) (hu : (P.underlying ty).map TypeDesc.isRow = some true) (hi : (P.info? ty).map (·.size) = some vs.size) :
    (Instr.loadAt ty (.pointer (some ⟨b, 0, none⟩))).run P w = .ok (.agg vs) w := by
  simp only [Instr.loadAt, Instr.sureAddr, Sem.run_bind, Sem.run_pure, Result.andThen_ok, load_box hb ty hu hi]
theorem wpList_ldbox {P : Program} {ops : Array Oper} {rest : List Oper} {op : Oper} {a : Act} {w : World} {Q : Exit → Act → World → Prop} (hgd : op.guard = none) (ty : TypeId) (x : Operand) (ho : op.op = .load ty x)
    (b : Nat) (vs : Array Value) (t : TypeId) (hx : a.eval x = .pointer (some ⟨b, 0, none⟩)) (hb : w.heap[b]? = some (.cells vs t (0, 0))) (hu : (P.underlying ty).map TypeDesc.isRow = some true) (hi : (P.info? ty).map (·.size) = some vs.size)
    (h : wpList P ops Q rest (a.put op.dst (.agg vs)) w) : wpList P ops Q (op :: rest) a w := by
  obtain ⟨d, hu, hd⟩ := Option.map_eq_some_iff.1 hu
  refine wpList_load_mid hgd ty x ho b 0 hx vs.toList d (fun j v hv => ?_) hu hd (by simpa using hi) (by simpa using h)
  rw [Nat.zero_add]
  exact (blk_cell hb j (by simpa using hv)).1
theorem res_box2 {P : Program} {fn : Func} {p u : Tmp} {ty t : TypeId} {w : World} {b : Nat} {vs : Array Value} {x : Value} {a : Act} {R : Ending → World → Prop} (h : fn.results = #[.cell p ty, .tmp u]) (hb : w.heap[b]? = some (.cells vs t (0, 0))) (hp : a.tmps.getD p undef = .pointer (some ⟨b, 0, none⟩)) (hx : a.tmps.getD u undef = x)
    (hu : (P.underlying ty).map TypeDesc.isRow = some true) (hi : (P.info? ty).map (·.size) = some vs.size) (hd : a.defers = []) (hR : R (.returned (.tuple #[.agg vs, x])) w) : bodyPost P fn R .ret a w := by
  refine bodyPost_ret (v := .tuple #[.agg vs, x]) ?_ hd hR
  rw [results_cell_tmp h, hp, hx]
  simp [asAddr, load_box hb ty hu hi]
theorem res_box1 {P : Program} {fn : Func} {p : Tmp} {ty t : TypeId} {w : World} {b : Nat} {vs : Array Value} {a : Act} {R : Ending → World → Prop} (h : fn.results = #[.cell p ty]) (hb : w.heap[b]? = some (.cells vs t (0, 0))) (hp : a.tmps.getD p undef = .pointer (some ⟨b, 0, none⟩))
    (hu : (P.underlying ty).map TypeDesc.isRow = some true) (hi : (P.info? ty).map (·.size) = some vs.size) (hd : a.defers = []) (hR : R (.returned (.agg vs)) w) : bodyPost P fn R .ret a w := by
  obtain ⟨d, hu, hr⟩ := Option.map_eq_some_iff.1 hu
  exact bodyPost_ret (results_cell_row h a.tmps w b t vs (0, 0) d hp hb hu (by cases d <;> simp_all [TypeDesc.isRow]) hi) hd hR
end Go.Proofs.Ytlhokhccjejcoaa.Stw
