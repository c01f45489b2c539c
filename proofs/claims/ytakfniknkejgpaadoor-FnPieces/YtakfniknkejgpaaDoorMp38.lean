/- Texts put together: Ob. -/
import Derived.Test.YtakfniknkejgpaaDoorMp37
import Derived.WalkKit
import Derived.ProofKit
import Derived.OpenShut
/- A slice of bytes, as the row opens it. -/
namespace Go.Proofs.YtakfniknkejgpaaDoor.Op
open Go.ChangeShapes Go.WideShapes Go.ChangeAt Go.RowKit
set_option maxRecDepth 100000 in
theorem open_bytes {H : Type} {enc : TypeId × Value → H} {w : World} {base : Nat} {spare : Nat → Bool} {r : Reach} {b0 : Nat} {v : Value} {d : DataW H} {p : List MemPlace}
 (hv : Value.okWide Tryd.prog w r b0 22 v) (h : DataW.Trod enc Tryd.prog w base spare true 22 v d p) (hs : ∀ b, spare b = true) :
 ∃ xs : List Int, Sl.RowB w v xs := by
 obtain ⟨a0, len0, cap0, rfl⟩ := okWide_slice Tryd.underlying22 hv
 obtain ⟨fuel, hf⟩ := h
 have hsp : spare = fun _ => true := funext hs
 subst hsp
 have : ∃ zs, Sl.IsRow .u8 w a0 len0 cap0 zs := by
  rcases open_ints Tryd.underlying22 Tryd.underlying5 (by kernel_rfl) hf with ⟨hcs, _⟩ | ⟨x, l, c, zs, hcs, _, hl, hm, hz, _, hcell, hwz⟩
  ·simp [Value.cells] at hcs
   obtain ⟨rfl, rfl, rfl⟩ := hcs
   exact ⟨[], .inl ⟨rfl, rfl, rfl, rfl⟩⟩
  ·simp [Value.cells] at hcs
   obtain ⟨rfl, rfl, rfl⟩ := hcs
   exact ⟨zs, .inr ⟨_, rfl, hl, hm, by simpa using hz, hcell, hwz⟩⟩
 obtain ⟨zs, hz⟩ := this
 obtain ⟨xs, _, hx⟩ := Sl.rowB_of hz
 exact ⟨xs, hx⟩
end Go.Proofs.YtakfniknkejgpaaDoor.Op
