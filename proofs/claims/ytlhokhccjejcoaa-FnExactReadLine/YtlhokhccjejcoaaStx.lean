/- A box of many cells, stored whole by one operation. -/
import Derived.Test.YtlhokhccjejcoaaStw
namespace Go.Proofs.Ytlhokhccjejcoaa.Stw
open Go.RowKit Go.Proofs.Ytlhokhccjejcoaa.Tx
theorem wp_box {P : Program} {op : Oper} {a : Act} {w : World} {K : Act → World → Prop} {Q : Exit → Act → World → Prop} (ty : TypeId) (x y : Operand) (ho : op.op = .store ty x y)
    (b : Nat) (zs vs : Array Value) (t : TypeId) (hx : a.eval x = .pointer (some ⟨b, 0, none⟩)) (hy : a.eval y = .agg vs) (hb : w.heap[b]? = some (.cells zs t (0, 0))) (hz : zs.size = vs.size)
    (hi : (P.info? ty).map (·.size) = some vs.size) (h1 : vs.all (·.oneCell') = true)
    (h : ∀ w', w'.heap[b]? = some (.cells vs t (0, 0)) → (∀ k, k ≠ b → w'.heap[k]? = w.heap[k]?) → (∀ {B : Nat} {w0 : World}, Below B w0 w → B ≤ b → Below B w0 w') → K (a.put op.dst undef) w') : op.wp P a w K Q := by
  refine wp_store_mid ty x y ho b 0 vs hx hy (fun j hj => ?_) hi h1 (h _ ?_ (fun k hk => cells_far hk _ _ _) (fun hb2 hB => cells_bel hB _ _ _ hb2))
  · have hj' : j < zs.size := by omega
    have := blk_cell hb j (x := zs[j]) (by rw [Array.getElem?_eq_getElem hj'])
    rw [Nat.zero_add]
    exact ⟨by rw [this.1]; rfl, this.2⟩
  · have := cells_blk vs.toList zs 0 w hb
    rwa [setR_all hz] at this
end Go.Proofs.Ytlhokhccjejcoaa.Stw
