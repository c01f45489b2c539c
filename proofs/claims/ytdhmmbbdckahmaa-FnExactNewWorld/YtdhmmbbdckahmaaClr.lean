/- New clients of both; marks on clients without lists. -/
import Derived.Test.YtdhmmbbdckahmaaClb
namespace Go.Proofs.Ytdhmmbbdckahmaa.Cl
open Go.RowKit Go.Proofs.Ytdhmmbbdckahmaa.Sl Go.Proofs.Ytdhmmbbdckahmaa.Rg
open Go.Proofs.Ytdhmmbbdckahmaa.Rq (inB within_any l01In_any)

def ncD (i : Int) : Cd := if inB i 0 255 = true then ⟨i, 0, false, 0, 0, 0, 0, ⟨#[]⟩, [], []⟩ else ⟨0, 0, false, 0, 0, 0, 0, ⟨#[]⟩, [], []⟩
def ncC (i : Int) : Int := if inB i 0 255 = true then 0 else 4
theorem ret_tup0 {a b : Value} {k l : Int} (h : a = b) (g : k = l) : Ending.returned (.tuple #[a, .int .i64 k]) = .returned (.tuple #[b, .int .i64 l]) := by rw [h, g]
theorem nc_yes {i : Int} (h : inB i 0 255 = true) : ncD i = ⟨i, 0, false, 0, 0, 0, 0, ⟨#[]⟩, [], []⟩ ∧ ncC i = 0 := ⟨if_pos h, if_pos h⟩
theorem nc_no {i : Int} (h : inB i 0 255 = false) : ncD i = ⟨0, 0, false, 0, 0, 0, 0, ⟨#[]⟩, [], []⟩ ∧ ncC i = 4 := ⟨if_neg (by rw [h]; decide), if_neg (by rw [h]; decide)⟩
set_option maxRecDepth 100000 in
set_option maxHeartbeats 1600000 in
theorem implNewClient_any (i : Int) (w : World) : Calls Try.prog 16 #[.int .i64 i] w fun e w' => e = .returned (.tuple #[clV (ncD i) (.slice none 0 0) (.slice none 0 0), .int .i64 (ncC i)]) ∧ Below w.heap.size w w' := by
  have HB : Hid ((w.alloc (.cells #[.int .i64 0, .int .i64 0, .bool false, .int .i64 0, .int .i64 0, .int .i64 0, .int .i64 0, .string ⟨#[]⟩, .slice none 0 0, .slice none 0 0] 49)).heap[w.heap.size]? = some (.cells #[.int .i64 0, .int .i64 0, .bool false, .int .i64 0, .int .i64 0, .int .i64 0, .int .i64 0, .string ⟨#[]⟩, .slice none 0 0, .slice none 0 0] 49) ∧ Below w.heap.size w (w.alloc (.cells #[.int .i64 0, .int .i64 0, .bool false, .int .i64 0, .int .i64 0, .int .i64 0, .int .i64 0, .string ⟨#[]⟩, .slice none 0 0, .slice none 0 0] 49))) := ⟨heap_alloc_new _ _, bel_new _ _⟩
  unfold clV
  go_enter Try.func16, Try.ntmps16
  go_upto_region 1 with fail
  generalize w.alloc (.cells #[.int .i64 0, .int .i64 0, .bool false, .int .i64 0, .int .i64 0, .int .i64 0, .int .i64 0, .string ⟨#[]⟩, .slice none 0 0, .slice none 0 0] 49) = wb at HB ⊢
  go_wp2_with fail
  refine (within_any i 0 255 _).mono ?_
  rintro e w2 ⟨rfl, hw⟩
  subst hw
  cases hi : inB i 0 255 with
  | false =>
    have HV : Hid (ncD i = ⟨0, 0, false, 0, 0, 0, 0, ⟨#[]⟩, [], []⟩ ∧ ncC i = 4) := nc_no hi
    clear hi
    obtain ⟨z0, fz0⟩ := Rg.blk_cell HB.out.1 0 (x := .int .i64 0) rfl
    obtain ⟨z1, fz1⟩ := Rg.blk_cell HB.out.1 1 (x := .int .i64 0) rfl
    obtain ⟨z2, fz2⟩ := Rg.blk_cell HB.out.1 2 (x := .bool false) rfl
    obtain ⟨z3, fz3⟩ := Rg.blk_cell HB.out.1 3 (x := .int .i64 0) rfl
    obtain ⟨z4, fz4⟩ := Rg.blk_cell HB.out.1 4 (x := .int .i64 0) rfl
    obtain ⟨z5, fz5⟩ := Rg.blk_cell HB.out.1 5 (x := .int .i64 0) rfl
    obtain ⟨z6, fz6⟩ := Rg.blk_cell HB.out.1 6 (x := .int .i64 0) rfl
    obtain ⟨z7, fz7⟩ := Rg.blk_cell HB.out.1 7 (x := .string ⟨#[]⟩) rfl
    obtain ⟨z8, fz8⟩ := Rg.blk_cell HB.out.1 8 (x := .slice none 0 0) rfl
    obtain ⟨z9, fz9⟩ := Rg.blk_cell HB.out.1 9 (x := .slice none 0 0) rfl
    obtain ⟨AF, _, GF0⟩ := set10 (.int .i64 0) (.int .i64 0) (.bool false) (.int .i64 0) (.int .i64 0) (.int .i64 0) (.int .i64 0) (.string ⟨#[]⟩) (.slice none 0 0) (.slice none 0 0) (.int .i64 0) (.int .i64 0) (.bool false) (.int .i64 0) (.int .i64 0) (.int .i64 0) (.int .i64 0) (.string ⟨#[]⟩) (.slice none 0 0) (.slice none 0 0) HB.out.1
    have GF := GF0 HB.out.2 (Nat.le_refl _)
    clear GF0
    go_wp2_with fail
    generalize ((((((((((w2.setCell ⟨w.heap.size, 0, none⟩ (.int .i64 0)).setCell ⟨w.heap.size, 1, none⟩ (.int .i64 0)).setCell ⟨w.heap.size, 2, none⟩ (.bool false)).setCell ⟨w.heap.size, 3, none⟩ (.int .i64 0)).setCell ⟨w.heap.size, 4, none⟩ (.int .i64 0)).setCell ⟨w.heap.size, 5, none⟩ (.int .i64 0)).setCell ⟨w.heap.size, 6, none⟩ (.int .i64 0)).setCell ⟨w.heap.size, 7, none⟩ (.string ⟨#[]⟩)).setCell ⟨w.heap.size, 8, none⟩ (.slice none 0 0)).setCell ⟨w.heap.size, 9, none⟩ (.slice none 0 0)) = wf at AF GF ⊢
    have d0 := (Rg.blk_cell AF 0 (x := .int .i64 0) rfl).1
    have d1 := (Rg.blk_cell AF 1 (x := .int .i64 0) rfl).1
    have d2 := (Rg.blk_cell AF 2 (x := .bool false) rfl).1
    have d3 := (Rg.blk_cell AF 3 (x := .int .i64 0) rfl).1
    have d4 := (Rg.blk_cell AF 4 (x := .int .i64 0) rfl).1
    have d5 := (Rg.blk_cell AF 5 (x := .int .i64 0) rfl).1
    have d6 := (Rg.blk_cell AF 6 (x := .int .i64 0) rfl).1
    have d7 := (Rg.blk_cell AF 7 (x := .string ⟨#[]⟩) rfl).1
    have d8 := (Rg.blk_cell AF 8 (x := .slice none 0 0) rfl).1
    have d9 := (Rg.blk_cell AF 9 (x := .slice none 0 0) rfl).1
    exact bodyPost_ret (v := .tuple #[.agg #[.int .i64 0, .int .i64 0, .bool false, .int .i64 0, .int .i64 0, .int .i64 0, .int .i64 0, .string ⟨#[]⟩, .slice none 0 0, .slice none 0 0], .int .i64 4]) (by simp [results, Try.results16, go_sem, d0, d1, d2, d3, d4, d5, d6, d7, d8, d9]) rfl ⟨ret_tup0 (by rw [HV.out.1]) HV.out.2.symm, GF⟩
  | true =>
    have HV : Hid (ncD i = ⟨i, 0, false, 0, 0, 0, 0, ⟨#[]⟩, [], []⟩ ∧ ncC i = 0) := nc_yes hi
    clear hi
    obtain ⟨z0, fz0⟩ := Rg.blk_cell HB.out.1 0 (x := .int .i64 0) rfl
    obtain ⟨z1, fz1⟩ := Rg.blk_cell HB.out.1 1 (x := .int .i64 0) rfl
    obtain ⟨z2, fz2⟩ := Rg.blk_cell HB.out.1 2 (x := .bool false) rfl
    obtain ⟨z3, fz3⟩ := Rg.blk_cell HB.out.1 3 (x := .int .i64 0) rfl
    obtain ⟨z4, fz4⟩ := Rg.blk_cell HB.out.1 4 (x := .int .i64 0) rfl
    obtain ⟨z5, fz5⟩ := Rg.blk_cell HB.out.1 5 (x := .int .i64 0) rfl
    obtain ⟨z6, fz6⟩ := Rg.blk_cell HB.out.1 6 (x := .int .i64 0) rfl
    obtain ⟨z7, fz7⟩ := Rg.blk_cell HB.out.1 7 (x := .string ⟨#[]⟩) rfl
    obtain ⟨z8, fz8⟩ := Rg.blk_cell HB.out.1 8 (x := .slice none 0 0) rfl
    obtain ⟨z9, fz9⟩ := Rg.blk_cell HB.out.1 9 (x := .slice none 0 0) rfl
    obtain ⟨AF, _, GF0⟩ := set10 (.int .i64 0) (.int .i64 0) (.bool false) (.int .i64 0) (.int .i64 0) (.int .i64 0) (.int .i64 0) (.string ⟨#[]⟩) (.slice none 0 0) (.slice none 0 0) (.int .i64 i) (.int .i64 0) (.bool false) (.int .i64 0) (.int .i64 0) (.int .i64 0) (.int .i64 0) (.string ⟨#[]⟩) (.slice none 0 0) (.slice none 0 0) HB.out.1
    have GF := GF0 HB.out.2 (Nat.le_refl _)
    clear GF0
    go_wp2_with fail
    generalize ((((((((((w2.setCell ⟨w.heap.size, 0, none⟩ (.int .i64 i)).setCell ⟨w.heap.size, 1, none⟩ (.int .i64 0)).setCell ⟨w.heap.size, 2, none⟩ (.bool false)).setCell ⟨w.heap.size, 3, none⟩ (.int .i64 0)).setCell ⟨w.heap.size, 4, none⟩ (.int .i64 0)).setCell ⟨w.heap.size, 5, none⟩ (.int .i64 0)).setCell ⟨w.heap.size, 6, none⟩ (.int .i64 0)).setCell ⟨w.heap.size, 7, none⟩ (.string ⟨#[]⟩)).setCell ⟨w.heap.size, 8, none⟩ (.slice none 0 0)).setCell ⟨w.heap.size, 9, none⟩ (.slice none 0 0)) = wf at AF GF ⊢
    have d0 := (Rg.blk_cell AF 0 (x := .int .i64 i) rfl).1
    have d1 := (Rg.blk_cell AF 1 (x := .int .i64 0) rfl).1
    have d2 := (Rg.blk_cell AF 2 (x := .bool false) rfl).1
    have d3 := (Rg.blk_cell AF 3 (x := .int .i64 0) rfl).1
    have d4 := (Rg.blk_cell AF 4 (x := .int .i64 0) rfl).1
    have d5 := (Rg.blk_cell AF 5 (x := .int .i64 0) rfl).1
    have d6 := (Rg.blk_cell AF 6 (x := .int .i64 0) rfl).1
    have d7 := (Rg.blk_cell AF 7 (x := .string ⟨#[]⟩) rfl).1
    have d8 := (Rg.blk_cell AF 8 (x := .slice none 0 0) rfl).1
    have d9 := (Rg.blk_cell AF 9 (x := .slice none 0 0) rfl).1
    exact bodyPost_ret (v := .tuple #[.agg #[.int .i64 i, .int .i64 0, .bool false, .int .i64 0, .int .i64 0, .int .i64 0, .int .i64 0, .string ⟨#[]⟩, .slice none 0 0, .slice none 0 0], .int .i64 0]) (by simp [results, Try.results16, go_sem, d0, d1, d2, d3, d4, d5, d6, d7, d8, d9]) rfl ⟨ret_tup0 (by rw [HV.out.1]) HV.out.2.symm, GF⟩
set_option maxRecDepth 100000 in
set_option maxHeartbeats 1600000 in
theorem l13New_any (i : Int) (w : World) : Calls Try.prog 28 #[.int .i64 i] w fun e w' => ∃ g1 g2, e = .returned (.agg #[.int .i64 i, .int .i64 0, .bool false, .int .i64 0, .int .i64 0, .int .i64 0, .int .i64 0, .string ⟨#[]⟩, .slice (some ⟨g1, 0, none⟩) 0 0, .slice (some ⟨g2, 0, none⟩) 0 0]) ∧ Below w.heap.size w w' := by
  have HB : Hid ((w.alloc (.cells #[.int .i64 0, .int .i64 0, .bool false, .int .i64 0, .int .i64 0, .int .i64 0, .int .i64 0, .string ⟨#[]⟩, .slice none 0 0, .slice none 0 0] 49)).heap[w.heap.size]? = some (.cells #[.int .i64 0, .int .i64 0, .bool false, .int .i64 0, .int .i64 0, .int .i64 0, .int .i64 0, .string ⟨#[]⟩, .slice none 0 0, .slice none 0 0] 49) ∧ Below w.heap.size w (w.alloc (.cells #[.int .i64 0, .int .i64 0, .bool false, .int .i64 0, .int .i64 0, .int .i64 0, .int .i64 0, .string ⟨#[]⟩, .slice none 0 0, .slice none 0 0] 49))) := ⟨heap_alloc_new _ _, bel_new _ _⟩
  go_enter Try.func28, Try.ntmps28
  go_upto_region 1 with fail
  generalize w.alloc (.cells #[.int .i64 0, .int .i64 0, .bool false, .int .i64 0, .int .i64 0, .int .i64 0, .int .i64 0, .string ⟨#[]⟩, .slice none 0 0, .slice none 0 0] 49) = wb at HB ⊢
  have HC : Hid (((wb.alloc (.cells #[] 103)).alloc (.cells #[] 74)).heap[w.heap.size]? = some (.cells #[.int .i64 0, .int .i64 0, .bool false, .int .i64 0, .int .i64 0, .int .i64 0, .int .i64 0, .string ⟨#[]⟩, .slice none 0 0, .slice none 0 0] 49) ∧ Below w.heap.size w ((wb.alloc (.cells #[] 103)).alloc (.cells #[] 74))) := by
    have b := ((bel_new wb (.cells #[] 103)).trans ((bel_new (wb.alloc (.cells #[] 103)) (.cells #[] 74)).mono (by simp)))
    exact ⟨(b.block _ (Array.getElem?_eq_some_iff.1 HB.out.1).1).trans HB.out.1, HB.out.2.trans (b.mono HB.out.2.size)⟩
  obtain ⟨z0, fz0⟩ := Rg.blk_cell HC.out.1 0 (x := .int .i64 0) rfl
  obtain ⟨z1, fz1⟩ := Rg.blk_cell HC.out.1 1 (x := .int .i64 0) rfl
  obtain ⟨z2, fz2⟩ := Rg.blk_cell HC.out.1 2 (x := .bool false) rfl
  obtain ⟨z3, fz3⟩ := Rg.blk_cell HC.out.1 3 (x := .int .i64 0) rfl
  obtain ⟨z4, fz4⟩ := Rg.blk_cell HC.out.1 4 (x := .int .i64 0) rfl
  obtain ⟨z5, fz5⟩ := Rg.blk_cell HC.out.1 5 (x := .int .i64 0) rfl
  obtain ⟨z6, fz6⟩ := Rg.blk_cell HC.out.1 6 (x := .int .i64 0) rfl
  obtain ⟨z7, fz7⟩ := Rg.blk_cell HC.out.1 7 (x := .string ⟨#[]⟩) rfl
  obtain ⟨z8, fz8⟩ := Rg.blk_cell HC.out.1 8 (x := .slice none 0 0) rfl
  obtain ⟨z9, fz9⟩ := Rg.blk_cell HC.out.1 9 (x := .slice none 0 0) rfl
  obtain ⟨AF, _, GF0⟩ := set10 (.int .i64 0) (.int .i64 0) (.bool false) (.int .i64 0) (.int .i64 0) (.int .i64 0) (.int .i64 0) (.string ⟨#[]⟩) (.slice none 0 0) (.slice none 0 0) (.int .i64 i) (.int .i64 0) (.bool false) (.int .i64 0) (.int .i64 0) (.int .i64 0) (.int .i64 0) (.string ⟨#[]⟩) (.slice (some ⟨wb.heap.size, 0, none⟩) 0 0) (.slice (some ⟨wb.heap.size + 1, 0, none⟩) 0 0) HC.out.1
  have GF := GF0 HC.out.2 (Nat.le_refl _)
  clear GF0
  go_wp2_with fail
  generalize ((((((((((((wb.alloc (.cells #[] 103)).alloc (.cells #[] 74)).setCell ⟨w.heap.size, 0, none⟩ (.int .i64 i)).setCell ⟨w.heap.size, 1, none⟩ (.int .i64 0)).setCell ⟨w.heap.size, 2, none⟩ (.bool false)).setCell ⟨w.heap.size, 3, none⟩ (.int .i64 0)).setCell ⟨w.heap.size, 4, none⟩ (.int .i64 0)).setCell ⟨w.heap.size, 5, none⟩ (.int .i64 0)).setCell ⟨w.heap.size, 6, none⟩ (.int .i64 0)).setCell ⟨w.heap.size, 7, none⟩ (.string ⟨#[]⟩)).setCell ⟨w.heap.size, 8, none⟩ (.slice (some ⟨wb.heap.size, 0, none⟩) 0 0)).setCell ⟨w.heap.size, 9, none⟩ (.slice (some ⟨wb.heap.size + 1, 0, none⟩) 0 0)) = wf at AF GF ⊢
  have d0 := (Rg.blk_cell AF 0 (x := .int .i64 i) rfl).1
  have d1 := (Rg.blk_cell AF 1 (x := .int .i64 0) rfl).1
  have d2 := (Rg.blk_cell AF 2 (x := .bool false) rfl).1
  have d3 := (Rg.blk_cell AF 3 (x := .int .i64 0) rfl).1
  have d4 := (Rg.blk_cell AF 4 (x := .int .i64 0) rfl).1
  have d5 := (Rg.blk_cell AF 5 (x := .int .i64 0) rfl).1
  have d6 := (Rg.blk_cell AF 6 (x := .int .i64 0) rfl).1
  have d7 := (Rg.blk_cell AF 7 (x := .string ⟨#[]⟩) rfl).1
  have d8 := (Rg.blk_cell AF 8 (x := .slice (some ⟨wb.heap.size, 0, none⟩) 0 0) rfl).1
  have d9 := (Rg.blk_cell AF 9 (x := .slice (some ⟨wb.heap.size + 1, 0, none⟩) 0 0) rfl).1
  exact bodyPost_ret (v := .agg #[.int .i64 i, .int .i64 0, .bool false, .int .i64 0, .int .i64 0, .int .i64 0, .int .i64 0, .string ⟨#[]⟩, .slice (some ⟨wb.heap.size, 0, none⟩) 0 0, .slice (some ⟨wb.heap.size + 1, 0, none⟩) 0 0]) (by simp [results, Try.results28, go_sem, d0, d1, d2, d3, d4, d5, d6, d7, d8, d9]) rfl ⟨_, _, rfl, GF⟩
set_option maxHeartbeats 400000 in
theorem markReplyS_nil (ad : Option Addr) (w : World) : Calls Try.prog 42 #[.slice ad 0 0, .int .i64 1] w fun e w' => e = .returned (.int .i64 1) ∧ w' = w := by
  go_enter Try.func42, Try.ntmps42
  go_wp2_with fail
  go_loopw [1, 5] (fun k i wr => k = .int .i64 1 ∧ i = .int .i64 0 ∧ wr = w) (fun _ _ _ => 0)
  case atStart => exact ⟨rfl, rfl, rfl⟩
  case round =>
    obtain ⟨rfl, rfl, rfl⟩ := hrel
    go_wp2
    go_ret
    exact ⟨rfl, rfl⟩
set_option maxHeartbeats 400000 in
theorem markAnswerS_nil (ad : Option Addr) (w : World) : Calls Try.prog 43 #[.slice ad 0 0, .int .i64 1] w fun e w' => e = .returned (.int .i64 1) ∧ w' = w := by
  go_enter Try.func43, Try.ntmps43
  go_wp2_with fail
  go_loopw [1, 5] (fun k i wr => k = .int .i64 1 ∧ i = .int .i64 0 ∧ wr = w) (fun _ _ _ => 0)
  case atStart => exact ⟨rfl, rfl, rfl⟩
  case round =>
    obtain ⟨rfl, rfl, rfl⟩ := hrel
    go_wp2
    go_ret
    exact ⟨rfl, rfl⟩
set_option maxHeartbeats 400000 in
theorem heldReplyS_nil (ad : Option Addr) (w : World) : Calls Try.prog 48 #[.slice ad 0 0, .int .i64 1] w fun e w' => e = .returned (.int .i64 1) ∧ w' = w := by
  go_enter Try.func48, Try.ntmps48
  go_wp2_with fail
  go_loopw [1, 5] (fun k i wr => k = .int .i64 1 ∧ i = .int .i64 0 ∧ wr = w) (fun _ _ _ => 0)
  case atStart => exact ⟨rfl, rfl, rfl⟩
  case round =>
    obtain ⟨rfl, rfl, rfl⟩ := hrel
    go_wp2
    go_ret
    exact ⟨rfl, rfl⟩
set_option maxHeartbeats 400000 in
theorem heldAnswerS_nil (ad : Option Addr) (w : World) : Calls Try.prog 49 #[.slice ad 0 0, .int .i64 1] w fun e w' => e = .returned (.int .i64 1) ∧ w' = w := by
  go_enter Try.func49, Try.ntmps49
  go_wp2_with fail
  go_loopw [1, 5] (fun k i wr => k = .int .i64 1 ∧ i = .int .i64 0 ∧ wr = w) (fun _ _ _ => 0)
  case atStart => exact ⟨rfl, rfl, rfl⟩
  case round =>
    obtain ⟨rfl, rfl, rfl⟩ := hrel
    go_wp2
    go_ret
    exact ⟨rfl, rfl⟩
end Go.Proofs.Ytdhmmbbdckahmaa.Cl
