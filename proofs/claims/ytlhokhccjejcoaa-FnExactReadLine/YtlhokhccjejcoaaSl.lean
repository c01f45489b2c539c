/- Bytes in a slice that is only read, and the laws' own copying and comparing of such slices. -/
import Derived.Test.YtlhokhccjejcoaaRows
import Derived.Test.YtlhokhccjejcoaaBy
import Derived.WalkKit
import Derived.ProofKit
import Derived.WalkSpells
import Derived.Laws.NewBlocks
import Derived.Laws.MakeOwn
import Derived.Deep.QuietTactic
import Derived.BigQuiet
namespace Go.Proofs.Ytlhokhccjejcoaa.Sl
open Go.RowKit

def nth (xs : List Int) (i : Nat) : Int := xs.getD i 0
/-- The slice v holds the bytes xs (whatever room lies behind them). -/
def RowB (w : World) (v : Value) (xs : List Int) : Prop :=
  ∃ a cap, v = .slice a xs.length cap ∧ (xs = [] ∨ ∃ b off, a = some ⟨b, off, none⟩ ∧ xs.length ≤ cap ∧ b < w.heap.size ∧ ∀ i, i < xs.length → w.cell? ⟨b, off + i, none⟩ = some (.int .u8 (nth xs i))) ∧ ∀ x ∈ xs, 0 ≤ x ∧ x ≤ 255
theorem RowB.below {w w' : World} {v : Value} {xs : List Int} (h : RowB w v xs) (hb : Below w.heap.size w w') : RowB w' v xs := by
  obtain ⟨a, cap, rfl, h, hr⟩ := h
  refine ⟨a, cap, rfl, ?_, hr⟩
  rcases h with h | ⟨b, off, rfl, hc, hlt, h⟩
  · exact .inl h
  · exact .inr ⟨b, off, rfl, hc, Nat.lt_of_lt_of_le hlt hb.size, fun i hi => (hb.cell (p := ⟨b, off + i, none⟩) hlt).trans (h i hi)⟩
theorem range_at {xs : List Int} (h : ∀ x ∈ xs, 0 ≤ x ∧ x ≤ 255) (k : Nat) : 0 ≤ nth xs k ∧ nth xs k ≤ 255 := by
  unfold nth
  rw [List.getD_eq_getElem?_getD]
  cases e : xs[k]? with
  | none => simp
  | some x => simpa using h x (List.mem_of_getElem? e)

theorem info5 : (Try.prog.info? 5).map (fun i => (i.zero, i.size, i.bytes)) = some (some (.int .u8 0), 1, 1) := by kernel_rfl

end Go.Proofs.Ytlhokhccjejcoaa.Sl
