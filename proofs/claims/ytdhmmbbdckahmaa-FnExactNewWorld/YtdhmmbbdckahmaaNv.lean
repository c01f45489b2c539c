/- Marks on a new replica. -/
import Derived.Test.YtdhmmbbdckahmaaNu
namespace Go.Proofs.Ytdhmmbbdckahmaa.Nr
open Go.RowKit Go.Proofs.Ytdhmmbbdckahmaa.Rg
open Go.Proofs.Ytdhmmbbdckahmaa.Rr (grown_set grown_trans grown_refl grown_alloc)

theorem grown_bel {B g : Nat} {w w' : World} (h : w.grownBy w' (some g)) (hB : B ≤ w.heap.size) (hg : B ≤ g) : Below B w w' :=
  ⟨h.os, h.tape, h.output, h.size, fun k hk => h.block k (by omega) (by simp; omega)⟩
theorem MS.rowE {w : World} {g : Nat} (h : MS w g 8 (fun _ => (⟨#[]⟩, false, false))) : RowG 5 E5 w (.slice (some ⟨g, 0, none⟩) 8 8) (List.replicate 8 ()) := by
  refine ⟨_, 8, rfl, .inr ⟨g, 0, rfl, by decide, h.lt, fun i x hi => ?_⟩⟩
  have hil := lt_at hi
  obtain ⟨⟨a0, _⟩, a1, a2, ⟨a3, _⟩, a4, _⟩ := h.cells (show i < 8 from hil)
  rw [Nat.zero_add]
  exact ⟨a0, ⟨_, _, a1⟩, ⟨_, _, a2⟩, a3, a4⟩
theorem MC.rowE {w : World} {g : Nat} (h : MC w g 8 (fun _ => ⟨#[]⟩)) : RowG 2 E2 w (.slice (some ⟨g, 0, none⟩) 8 8) (List.replicate 8 ()) := by
  refine ⟨_, 8, rfl, .inr ⟨g, 0, rfl, by decide, h.lt, fun i x hi => ?_⟩⟩
  have hil := lt_at hi
  obtain ⟨⟨a0, _⟩, a1⟩ := h.cells (show i < 8 from hil)
  rw [Nat.zero_add]
  exact ⟨a0, _, _, a1⟩
theorem row_nil5 (w : World) : RowG 5 E5 w (.slice none 0 0) [] := ⟨none, 0, rfl, .inl rfl⟩
theorem row_nil2 (w : World) : RowG 2 E2 w (.slice none 0 0) [] := ⟨none, 0, rfl, .inl rfl⟩
end Go.Proofs.Ytdhmmbbdckahmaa.Nr
