/- impl.spreadBlock: the 64 words of a block. -/
import Derived.Test.YtdeologdmdimoaaShaT
import Derived.Test.YtdeologdmdimoaaSl
import Derived.Test.YtdeologdmdimoaaMem
import Derived.BigRegion
import Derived.Deep.QuietTactic
import Derived.BigQuiet
namespace Go.Proofs.Ytdeologdmdimoaa.Sh
open Go.RowKit Go.Proofs.Ytdeologdmdimoaa.Sl Go.Proofs.Ytdeologdmdimoaa.Me

theorem nth_nat {xs : List Int} (hr : ∀ x ∈ xs, 0 ≤ x ∧ x ≤ 255) (i : Nat) : nth xs i = nat (wb xs i) :=
  wb_eq xs i (range_at hr i).1 (range_at hr i).2
def zeros : Array Value := Array.replicate 64 (.int .u32 0)
theorem zeros_size : zeros.size = 64 := by unfold zeros; simp
/-- The first k words are laid. -/
def WordsTo (xs : List Int) (k : Nat) (A : Array Value) : Prop := A.size = 64 ∧ ∀ j, j < k → A[j]? = some (.int .u32 (nat (wt xs j)))
theorem words_step {xs : List Int} {k : Nat} {A : Array Value} (h : WordsTo xs k A) (hk : k < 64) : WordsTo xs (k + 1) (A.setIfInBounds k (.int .u32 (nat (wt xs k)))) := by
  refine ⟨by rw [Array.size_setIfInBounds]; exact h.1, fun j hj => ?_⟩
  rw [Array.getElem?_setIfInBounds]
  by_cases e : k = j
  · subst e
    rw [if_pos rfl, if_pos (by rw [h.1]; exact hk)]
  · rw [if_neg e]
    exact h.2 j (by omega)
theorem words_get {xs : List Int} {k : Nat} {A : Array Value} (h : WordsTo xs k A) (hk : k < 64) : ∃ x, A[k]? = some x := ⟨_, Array.getElem?_eq_getElem (by rw [h.1]; exact hk)⟩

theorem words_one {xs : List Int} {A : Array Value} (h : WordsTo xs 64 A) : A.all (·.oneCell') = true := by
  rw [Array.all_eq_true]
  intro i hi
  have h2 := h.2 i (by rw [← h.1]; exact hi)
  rw [Array.getElem?_eq_getElem hi] at h2
  rw [Option.some.inj h2]
  rfl

end Go.Proofs.Ytdeologdmdimoaa.Sh
