/- A new replica of the program. -/
import Derived.Test.YtdhmmbbdckahmaaNt
namespace Go.Proofs.Ytdhmmbbdckahmaa.Nr
open Go.RowKit Go.Proofs.Ytdhmmbbdckahmaa.Rg Go.Proofs.Ytdhmmbbdckahmaa.Tm

def zS : Array Value := madeCells #[.string ⟨#[]⟩, .slice none 0 0, .slice none 0 0, .bool false, .bool false] 40
def zC : Array Value := madeCells #[.string ⟨#[]⟩, .slice none 0 0] 16
theorem makeS (w : World) : Sem.run Try.prog (Instr.makeSlice 61 (.int .i64 8) (.int .i64 8)) w = .ok (.slice (some ⟨w.heap.size, 0, none⟩) 8 8) (w.alloc (.cells zS 112)) := by kernel_rfl
theorem makeC (w : World) : Sem.run Try.prog (Instr.makeSlice 62 (.int .i64 8) (.int .i64 8)) w = .ok (.slice (some ⟨w.heap.size, 0, none⟩) 8 8) (w.alloc (.cells zC 106)) := by kernel_rfl
theorem MS.new {w : World} {g : Nat} (h : w.heap[g]? = some (.cells zS 112 (0, 0))) : MS w g 8 (fun _ => (⟨#[]⟩, false, false)) := by
  refine ⟨zS, h, fun i hi => ?_⟩
  match i, hi with
  | 0, _ => exact ⟨by kernel_rfl, by kernel_rfl, by kernel_rfl, by kernel_rfl, by kernel_rfl⟩
  | 1, _ => exact ⟨by kernel_rfl, by kernel_rfl, by kernel_rfl, by kernel_rfl, by kernel_rfl⟩
  | 2, _ => exact ⟨by kernel_rfl, by kernel_rfl, by kernel_rfl, by kernel_rfl, by kernel_rfl⟩
  | 3, _ => exact ⟨by kernel_rfl, by kernel_rfl, by kernel_rfl, by kernel_rfl, by kernel_rfl⟩
  | 4, _ => exact ⟨by kernel_rfl, by kernel_rfl, by kernel_rfl, by kernel_rfl, by kernel_rfl⟩
  | 5, _ => exact ⟨by kernel_rfl, by kernel_rfl, by kernel_rfl, by kernel_rfl, by kernel_rfl⟩
  | 6, _ => exact ⟨by kernel_rfl, by kernel_rfl, by kernel_rfl, by kernel_rfl, by kernel_rfl⟩
  | 7, _ => exact ⟨by kernel_rfl, by kernel_rfl, by kernel_rfl, by kernel_rfl, by kernel_rfl⟩
theorem MC.new {w : World} {g : Nat} (h : w.heap[g]? = some (.cells zC 106 (0, 0))) : MC w g 8 (fun _ => ⟨#[]⟩) := by
  refine ⟨zC, h, fun i hi => ?_⟩
  match i, hi with
  | 0, _ => exact ⟨by kernel_rfl, by kernel_rfl⟩
  | 1, _ => exact ⟨by kernel_rfl, by kernel_rfl⟩
  | 2, _ => exact ⟨by kernel_rfl, by kernel_rfl⟩
  | 3, _ => exact ⟨by kernel_rfl, by kernel_rfl⟩
  | 4, _ => exact ⟨by kernel_rfl, by kernel_rfl⟩
  | 5, _ => exact ⟨by kernel_rfl, by kernel_rfl⟩
  | 6, _ => exact ⟨by kernel_rfl, by kernel_rfl⟩
  | 7, _ => exact ⟨by kernel_rfl, by kernel_rfl⟩

set_option maxRecDepth 100000 in
set_option maxHeartbeats 1600000 in
theorem implNew_no (id n : Int) (w : World) (h : okR id n = false) : Calls Try.prog 31 #[.int .i64 id, .int .i64 n] w fun e w' => e = .returned (.tuple #[.agg #[.int .i64 0, .int .i64 0, .int .i64 0, .bool false, .slice none 0 0, .slice none 0 0, .slice none 0 0, .slice none 0 0], .int .i64 4]) ∧ Below w.heap.size w w' := by
  have H0 : Hid (∀ o, Below w.heap.size w (w.alloc o)) := fun o => bel_new _ _
  go_enter Try.func31, Try.ntmps31
  go_wp2_with fail
  refine (isNodeOf_any id n _).mono ?_
  rintro e w1 ⟨rfl, rfl⟩
  rw [h]
  go_wp2_with fail
  exact bodyPost_ret (v := .tuple #[.agg #[.int .i64 0, .int .i64 0, .int .i64 0, .bool false, .slice none 0 0, .slice none 0 0, .slice none 0 0, .slice none 0 0], .int .i64 4]) (by simp [results, Try.results31, go_sem]) rfl ⟨rfl, H0.out _⟩
set_option maxRecDepth 100000 in
set_option maxHeartbeats 1600000 in
theorem implNew_yes (id n : Int) (w : World) (h : okR id n = true) : Calls Try.prog 31 #[.int .i64 id, .int .i64 n] w fun e w' => ∃ gs gc, e = .returned (.tuple #[.agg #[.int .i64 id, .int .i64 n, .int .i64 0, .bool true, .slice (some ⟨gs, 0, none⟩) 8 8, .slice (some ⟨gc, 0, none⟩) 8 8, .slice none 0 0, .slice none 0 0], .int .i64 0]) ∧ w.heap.size ≤ gs ∧ w.heap.size ≤ gc ∧ gs ≠ gc ∧ MS w' gs 8 (fun _ => (⟨#[]⟩, false, false)) ∧ MC w' gc 8 (fun _ => ⟨#[]⟩) ∧ Below w.heap.size w w' := by
  go_enter Try.func31, Try.ntmps31
  go_wp2_with fail
  refine (isNodeOf_any id n _).mono ?_
  rintro e w1 ⟨rfl, rfl⟩
  rw [h]
  have hmS := makeS
  have hmC := makeC
  go_upto_region 3 with fail
  go_region
  · have HM : Hid (MS (((w.alloc (.cells #[.int .i64 id, .int .i64 n, .int .i64 0, .bool true, .slice (some ⟨w.heap.size + 1, 0, none⟩) 8 8, .slice (some ⟨w.heap.size + 1 + 1, 0, none⟩) 8 8, .slice none 0 0, .slice none 0 0] 65)).alloc (.cells zS 112)).alloc (.cells zC 106)).drew (w.heap.size + 1) 8 (fun _ => (⟨#[]⟩, false, false)) ∧ MC (((w.alloc (.cells #[.int .i64 id, .int .i64 n, .int .i64 0, .bool true, .slice (some ⟨w.heap.size + 1, 0, none⟩) 8 8, .slice (some ⟨w.heap.size + 1 + 1, 0, none⟩) 8 8, .slice none 0 0, .slice none 0 0] 65)).alloc (.cells zS 112)).alloc (.cells zC 106)).drew (w.heap.size + 1 + 1) 8 (fun _ => ⟨#[]⟩)) := ⟨MS.new (show (((w.alloc (.cells #[.int .i64 id, .int .i64 n, .int .i64 0, .bool true, .slice (some ⟨w.heap.size + 1, 0, none⟩) 8 8, .slice (some ⟨w.heap.size + 1 + 1, 0, none⟩) 8 8, .slice none 0 0, .slice none 0 0] 65)).alloc (.cells zS 112)).alloc (.cells zC 106)).drew.heap[w.heap.size + 1]? = _ from (Below.heap_alloc _ _ _ (by simp)).trans (by have h9 := blk_new (w.alloc (.cells #[.int .i64 id, .int .i64 n, .int .i64 0, .bool true, .slice (some ⟨w.heap.size + 1, 0, none⟩) 8 8, .slice (some ⟨w.heap.size + 1 + 1, 0, none⟩) 8 8, .slice none 0 0, .slice none 0 0] 65)) zS 112; rw [size_new] at h9; exact h9)), MC.new (show (((w.alloc (.cells #[.int .i64 id, .int .i64 n, .int .i64 0, .bool true, .slice (some ⟨w.heap.size + 1, 0, none⟩) 8 8, .slice (some ⟨w.heap.size + 1 + 1, 0, none⟩) 8 8, .slice none 0 0, .slice none 0 0] 65)).alloc (.cells zS 112)).alloc (.cells zC 106)).drew.heap[w.heap.size + 1 + 1]? = _ from (by have h9 := blk_new ((w.alloc (.cells #[.int .i64 id, .int .i64 n, .int .i64 0, .bool true, .slice (some ⟨w.heap.size + 1, 0, none⟩) 8 8, .slice (some ⟨w.heap.size + 1 + 1, 0, none⟩) 8 8, .slice none 0 0, .slice none 0 0] 65)).alloc (.cells zS 112)) zC 106; rw [size_new, size_new] at h9; exact h9))⟩
    have HB : Hid (Below w.heap.size w (((w.alloc (.cells #[.int .i64 id, .int .i64 n, .int .i64 0, .bool true, .slice (some ⟨w.heap.size + 1, 0, none⟩) 8 8, .slice (some ⟨w.heap.size + 1 + 1, 0, none⟩) 8 8, .slice none 0 0, .slice none 0 0] 65)).alloc (.cells zS 112)).alloc (.cells zC 106)).drew) := (((bel_new w _).alloc (by simp) _).alloc (by simp; omega) _).drew
    have HK : Hid ((((w.alloc (.cells #[.int .i64 id, .int .i64 n, .int .i64 0, .bool true, .slice (some ⟨w.heap.size + 1, 0, none⟩) 8 8, .slice (some ⟨w.heap.size + 1 + 1, 0, none⟩) 8 8, .slice none 0 0, .slice none 0 0] 65)).alloc (.cells zS 112)).alloc (.cells zC 106)).drew.heap[w.heap.size]? = some (.cells #[.int .i64 id, .int .i64 n, .int .i64 0, .bool true, .slice (some ⟨w.heap.size + 1, 0, none⟩) 8 8, .slice (some ⟨w.heap.size + 1 + 1, 0, none⟩) 8 8, .slice none 0 0, .slice none 0 0] 65 (0, 0))) := (show (((w.alloc (.cells #[.int .i64 id, .int .i64 n, .int .i64 0, .bool true, .slice (some ⟨w.heap.size + 1, 0, none⟩) 8 8, .slice (some ⟨w.heap.size + 1 + 1, 0, none⟩) 8 8, .slice none 0 0, .slice none 0 0] 65)).alloc (.cells zS 112)).alloc (.cells zC 106)).heap[w.heap.size]? = _ from ((Below.heap_alloc _ _ _ (by simp; omega)).trans (Below.heap_alloc _ _ _ (by simp))).trans (blk_new _ _ _))
    go_wp2_with fail
    generalize (((w.alloc (.cells #[.int .i64 id, .int .i64 n, .int .i64 0, .bool true, .slice (some ⟨w.heap.size + 1, 0, none⟩) 8 8, .slice (some ⟨w.heap.size + 1 + 1, 0, none⟩) 8 8, .slice none 0 0, .slice none 0 0] 65)).alloc (.cells zS 112)).alloc (.cells zC 106)).drew = wf at HM HB HK ⊢
    have d0 := (blk_cell HK.out 0 (x := .int .i64 id) rfl).1
    have d1 := (blk_cell HK.out 1 (x := .int .i64 n) rfl).1
    have d2 := (blk_cell HK.out 2 (x := .int .i64 0) rfl).1
    have d3 := (blk_cell HK.out 3 (x := .bool true) rfl).1
    have d4 := (blk_cell HK.out 4 (x := .slice (some ⟨w.heap.size + 1, 0, none⟩) 8 8) rfl).1
    have d5 := (blk_cell HK.out 5 (x := .slice (some ⟨w.heap.size + 1 + 1, 0, none⟩) 8 8) rfl).1
    have d6 := (blk_cell HK.out 6 (x := .slice none 0 0) rfl).1
    have d7 := (blk_cell HK.out 7 (x := .slice none 0 0) rfl).1
    exact bodyPost_ret (v := .tuple #[.agg #[.int .i64 id, .int .i64 n, .int .i64 0, .bool true, .slice (some ⟨w.heap.size + 1, 0, none⟩) 8 8, .slice (some ⟨w.heap.size + 1 + 1, 0, none⟩) 8 8, .slice none 0 0, .slice none 0 0], .int .i64 0]) (by simp [results, Try.results31, go_sem, d0, d1, d2, d3, d4, d5, d6, d7]) rfl ⟨_, _, rfl, by omega, by omega, by omega, HM.out.1, HM.out.2, HB.out⟩
  · have HM : Hid (MS (((w.alloc (.cells #[.int .i64 id, .int .i64 n, .int .i64 0, .bool true, .slice (some ⟨w.heap.size + 1 + 1, 0, none⟩) 8 8, .slice (some ⟨w.heap.size + 1, 0, none⟩) 8 8, .slice none 0 0, .slice none 0 0] 65)).alloc (.cells zC 106)).alloc (.cells zS 112)).drew (w.heap.size + 1 + 1) 8 (fun _ => (⟨#[]⟩, false, false)) ∧ MC (((w.alloc (.cells #[.int .i64 id, .int .i64 n, .int .i64 0, .bool true, .slice (some ⟨w.heap.size + 1 + 1, 0, none⟩) 8 8, .slice (some ⟨w.heap.size + 1, 0, none⟩) 8 8, .slice none 0 0, .slice none 0 0] 65)).alloc (.cells zC 106)).alloc (.cells zS 112)).drew (w.heap.size + 1) 8 (fun _ => ⟨#[]⟩)) := ⟨MS.new (show (((w.alloc (.cells #[.int .i64 id, .int .i64 n, .int .i64 0, .bool true, .slice (some ⟨w.heap.size + 1 + 1, 0, none⟩) 8 8, .slice (some ⟨w.heap.size + 1, 0, none⟩) 8 8, .slice none 0 0, .slice none 0 0] 65)).alloc (.cells zC 106)).alloc (.cells zS 112)).drew.heap[w.heap.size + 1 + 1]? = _ from (by have h9 := blk_new ((w.alloc (.cells #[.int .i64 id, .int .i64 n, .int .i64 0, .bool true, .slice (some ⟨w.heap.size + 1 + 1, 0, none⟩) 8 8, .slice (some ⟨w.heap.size + 1, 0, none⟩) 8 8, .slice none 0 0, .slice none 0 0] 65)).alloc (.cells zC 106)) zS 112; rw [size_new, size_new] at h9; exact h9)), MC.new (show (((w.alloc (.cells #[.int .i64 id, .int .i64 n, .int .i64 0, .bool true, .slice (some ⟨w.heap.size + 1 + 1, 0, none⟩) 8 8, .slice (some ⟨w.heap.size + 1, 0, none⟩) 8 8, .slice none 0 0, .slice none 0 0] 65)).alloc (.cells zC 106)).alloc (.cells zS 112)).drew.heap[w.heap.size + 1]? = _ from (Below.heap_alloc _ _ _ (by simp)).trans (by have h9 := blk_new (w.alloc (.cells #[.int .i64 id, .int .i64 n, .int .i64 0, .bool true, .slice (some ⟨w.heap.size + 1 + 1, 0, none⟩) 8 8, .slice (some ⟨w.heap.size + 1, 0, none⟩) 8 8, .slice none 0 0, .slice none 0 0] 65)) zC 106; rw [size_new] at h9; exact h9))⟩
    have HB : Hid (Below w.heap.size w (((w.alloc (.cells #[.int .i64 id, .int .i64 n, .int .i64 0, .bool true, .slice (some ⟨w.heap.size + 1 + 1, 0, none⟩) 8 8, .slice (some ⟨w.heap.size + 1, 0, none⟩) 8 8, .slice none 0 0, .slice none 0 0] 65)).alloc (.cells zC 106)).alloc (.cells zS 112)).drew) := (((bel_new w _).alloc (by simp) _).alloc (by simp; omega) _).drew
    have HK : Hid ((((w.alloc (.cells #[.int .i64 id, .int .i64 n, .int .i64 0, .bool true, .slice (some ⟨w.heap.size + 1 + 1, 0, none⟩) 8 8, .slice (some ⟨w.heap.size + 1, 0, none⟩) 8 8, .slice none 0 0, .slice none 0 0] 65)).alloc (.cells zC 106)).alloc (.cells zS 112)).drew.heap[w.heap.size]? = some (.cells #[.int .i64 id, .int .i64 n, .int .i64 0, .bool true, .slice (some ⟨w.heap.size + 1 + 1, 0, none⟩) 8 8, .slice (some ⟨w.heap.size + 1, 0, none⟩) 8 8, .slice none 0 0, .slice none 0 0] 65 (0, 0))) := (show (((w.alloc (.cells #[.int .i64 id, .int .i64 n, .int .i64 0, .bool true, .slice (some ⟨w.heap.size + 1 + 1, 0, none⟩) 8 8, .slice (some ⟨w.heap.size + 1, 0, none⟩) 8 8, .slice none 0 0, .slice none 0 0] 65)).alloc (.cells zC 106)).alloc (.cells zS 112)).heap[w.heap.size]? = _ from ((Below.heap_alloc _ _ _ (by simp; omega)).trans (Below.heap_alloc _ _ _ (by simp))).trans (blk_new _ _ _))
    go_wp2_with fail
    generalize (((w.alloc (.cells #[.int .i64 id, .int .i64 n, .int .i64 0, .bool true, .slice (some ⟨w.heap.size + 1 + 1, 0, none⟩) 8 8, .slice (some ⟨w.heap.size + 1, 0, none⟩) 8 8, .slice none 0 0, .slice none 0 0] 65)).alloc (.cells zC 106)).alloc (.cells zS 112)).drew = wf at HM HB HK ⊢
    have d0 := (blk_cell HK.out 0 (x := .int .i64 id) rfl).1
    have d1 := (blk_cell HK.out 1 (x := .int .i64 n) rfl).1
    have d2 := (blk_cell HK.out 2 (x := .int .i64 0) rfl).1
    have d3 := (blk_cell HK.out 3 (x := .bool true) rfl).1
    have d4 := (blk_cell HK.out 4 (x := .slice (some ⟨w.heap.size + 1 + 1, 0, none⟩) 8 8) rfl).1
    have d5 := (blk_cell HK.out 5 (x := .slice (some ⟨w.heap.size + 1, 0, none⟩) 8 8) rfl).1
    have d6 := (blk_cell HK.out 6 (x := .slice none 0 0) rfl).1
    have d7 := (blk_cell HK.out 7 (x := .slice none 0 0) rfl).1
    exact bodyPost_ret (v := .tuple #[.agg #[.int .i64 id, .int .i64 n, .int .i64 0, .bool true, .slice (some ⟨w.heap.size + 1 + 1, 0, none⟩) 8 8, .slice (some ⟨w.heap.size + 1, 0, none⟩) 8 8, .slice none 0 0, .slice none 0 0], .int .i64 0]) (by simp [results, Try.results31, go_sem, d0, d1, d2, d3, d4, d5, d6, d7]) rfl ⟨_, _, rfl, by omega, by omega, by omega, HM.out.1, HM.out.2, HB.out⟩
end Go.Proofs.Ytdhmmbbdckahmaa.Nr
