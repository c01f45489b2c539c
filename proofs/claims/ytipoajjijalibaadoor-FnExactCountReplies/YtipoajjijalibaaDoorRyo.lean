/- A list of replies that is handed in. -/
import Derived.Test.YtipoajjijalibaaDoorGy
namespace Go.Proofs.YtipoajjijalibaaDoor.Op
open Go.ChangeShapes Go.WideShapes Go.ChangeAt Go.RowKit Go.Deep Go.Proofs.YtipoajjijalibaaDoor.Rg Go.Proofs.YtipoajjijalibaaDoor.Gy
set_option maxRecDepth 100000 in
theorem open_replies {H : Type} {enc : TypeId × Value → H} {w : World} {base : Nat} {spare : Nat → Bool} {held : Bool} {r : Reach} {b0 : Nat} {v : Value} {d : DataW H} {p : List MemPlace}
    (hv : Value.okWide Tryd.prog w r b0 49 v) (h : DataW.Trod enc Tryd.prog w base spare held 49 v d p) :
    ∃ xs : List Re, Gy.Row w v xs ∧ xs.length ≤ maxLen ∧ ∀ x ∈ xs, Gy.Tz maxLen x := by
  obtain ⟨a0, len0, cap0, rfl⟩ := okWide_slice Tryd.underlying49 hv
  obtain ⟨fuel, hf⟩ := h
  obtain ⟨v, xs, e, h1, h2, h3⟩ := openGy hf
  simp [Value.cells] at e
  subst e
  exact ⟨xs, h1, h2, h3⟩
end Go.Proofs.YtipoajjijalibaaDoor.Op
