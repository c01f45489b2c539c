/- The specification's l01Hash and Hash. -/
import Derived.Test.YtiflfcpoajijaaaDoorShaA
import Derived.BigRegion
namespace Go.Proofs.YtiflfcpoajijaaaDoor.Sh
open Go.RowKit Go.Proofs.YtiflfcpoajijaaaDoor.Sl Go.Proofs.YtiflfcpoajijaaaDoor.Me

theorem lit8 : (#[.int .u32 1779033703, .int .u32 3144134277, .int .u32 1013904242, .int .u32 2773480762, .int .u32 1359893119, .int .u32 2600822924, .int .u32 528734635, .int .u32 1541459225] : Array Value) = arr8 r0 := rfl
/-- The world in which the state is laid. -/
def w8 (w : World) : World := w.alloc (.cells (arr8 r0) 85)
def w9 (w : World) : World := (w.alloc (.cells #[.int .u32 1779033703, .int .u32 3144134277, .int .u32 1013904242, .int .u32 2773480762, .int .u32 1359893119, .int .u32 2600822924, .int .u32 528734635, .int .u32 1541459225] 85)).alloc (.cells #[] 5)
/-- The start of the specification's Hash: its state is laid. -/
theorem start8 {w : World} {v : Value} {xs : List Int} (h : RowB w v xs) :
    (w8 w).heap.size = w.heap.size + 1 ∧ ArrAt (w8 w) w.heap.size 85 (arr8 r0) ∧ Below w.heap.size w (w8 w) ∧
    RowB (w9 w) v xs ∧ By.OwnB 5 (w9 w) (w.heap.size + 1) (.slice (some ⟨w.heap.size + 1, 0, none⟩) 0 0) [] ∧ Below (w.heap.size + 1) (w8 w) (w9 w) ∧ w.heap.size + 1 ≤ (w9 w).heap.size := by
  have b1 : Below w.heap.size w (w8 w) := (Below.refl _ _).alloc (Nat.le_refl _) _
  have hs : (w8 w).heap.size = w.heap.size + 1 := by simp [w8]
  have e9 : w9 w = (w8 w).alloc (.cells #[] 5) := by unfold w9 w8; rw [lit8]
  rw [e9]
  refine ⟨hs, arrAt_new w _ _, b1, (h.below b1).below ((Below.refl _ _).alloc (Nat.le_refl _) _), ?_, ?_, ?_⟩
  · rw [← hs]; exact By.own_made 5 (w8 w) _ #[] 0 (Nat.le_refl _) (by simp [maxLen]) rfl
  · rw [← hs]; exact (Below.refl _ _).alloc (Nat.le_refl _) _
  · simp; omega

theorem four_eq (x : UInt32) : [IntKind.u8.wrap (nat x / 16777216), IntKind.u8.wrap (nat x / 65536), IntKind.u8.wrap (nat x / 256), IntKind.u8.wrap (nat x)] = [byteOf x 0, byteOf x 1, byteOf x 2, byteOf x 3] := by
  simp [byteOf, IntKind.wrap_u8]

end Go.Proofs.YtiflfcpoajijaaaDoor.Sh
