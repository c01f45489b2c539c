/- Messages are read: both ReadMessage functions answer alike. -/
import Derived.Test.YtddmdnljfnimbaaGreatDoorPuMsg
import Derived.Test.YtddmdnljfnimbaaGreatDoorSpMsg
import Derived.Test.YtddmdnljfnimbaaGreatDoorRdReq
namespace Go.Proofs.YtddmdnljfnimbaaGreatDoor.Om
open Go.RowKit Go.Proofs.YtddmdnljfnimbaaGreatDoor.Sl Go.Proofs.YtddmdnljfnimbaaGreatDoor.By Go.Proofs.YtddmdnljfnimbaaGreatDoor.Ap Go.Proofs.YtddmdnljfnimbaaGreatDoor.Rq Go.Proofs.YtddmdnljfnimbaaGreatDoor.Rr Go.Proofs.YtddmdnljfnimbaaGreatDoor.Of Go.Proofs.YtddmdnljfnimbaaGreatDoor.Ms

/-- What both answer. -/
def readMsg (xs : List Int) : Value := rjV zmsg #[.int .i64 (beN (tkB 1 xs)), .int .i64 (beN (tkB 1 (tkR 1 xs))), .int .i64 (beN (tkB 1 (tkR 1 (tkR 1 xs)))), .int .i64 (beN (tkB 1 (tkR 1 (tkR 1 (tkR 1 xs))))), .string (mgDg xs), .string (mgBd xs), .string (mgMc xs)] (decide (65536 < xs.length)) (!mgSh xs false && ((mgRest xs).isEmpty && msgB (beN (tkB 1 xs)) (beN (tkB 1 (tkR 1 xs))) (beN (tkB 1 (tkR 1 (tkR 1 xs)))) (beN (tkB 1 (tkR 1 (tkR 1 (tkR 1 xs))))) (mgDg xs) (mgBd xs) (mgMc xs)))
theorem readMsg_form (xs : List Int) : ∃ (kd vw sq fr : Int) (dg bd mc : ByteArray) (code : Int), readMsg xs = .tuple #[.agg #[.int .i64 kd, .int .i64 vw, .int .i64 sq, .int .i64 fr, .string dg, .string bd, .string mc], .int .i64 code] := by
  unfold readMsg rjV
  split
  · exact ⟨0, 0, 0, 0, ⟨#[]⟩, ⟨#[]⟩, ⟨#[]⟩, 2, rfl⟩
  · split
    · exact ⟨_, _, _, _, _, _, _, 0, rfl⟩
    · exact ⟨0, 0, 0, 0, ⟨#[]⟩, ⟨#[]⟩, ⟨#[]⟩, 3, rfl⟩
theorem ext_list (xs : List Int) (hr : ∀ x ∈ xs, 0 ≤ x ∧ x ≤ 255) (a b : Nat) : (strOfNums xs).extract a b = strOfNums ((xs.take b).drop a) := by
  rw [← str_bys ((strOfNums xs).extract a b), bys_ext, bys_str xs hr]
theorem eq_msg_yes (xs : List Int) (hr : ∀ x ∈ xs, 0 ≤ x ∧ x ≤ 255) (hq : xs.length = 15 + mD xs + mN xs) :
    beN (tkB 1 xs) = nth (bys (strOfNums xs)) 0 ∧ beN (tkB 1 (tkR 1 xs)) = nth (bys (strOfNums xs)) 1 ∧ beN (tkB 1 (tkR 1 (tkR 1 xs))) = nth (bys (strOfNums xs)) 2 ∧ beN (tkB 1 (tkR 1 (tkR 1 (tkR 1 xs)))) = nth (bys (strOfNums xs)) 3 ∧
      mgDg xs = (strOfNums xs).extract 5 (5 + mD xs) ∧ mgBd xs = (strOfNums xs).extract (5 + mD xs + 2) (5 + mD xs + 2 + mN xs) ∧ mgMc xs = (strOfNums xs).extract (5 + mD xs + 2 + mN xs) (strOfNums xs).size ∧ mgRest xs = [] ∧ mgSh xs false = false := by
  obtain ⟨a1, a2, a3, a4, a5, a6, a7, a8, a9⟩ := msg_open xs (by omega)
  rw [bys_str xs hr]
  refine ⟨a1, a2, a3, a4, ?_, ?_, ?_, ?_, a9⟩
  · rw [a5, ext_list xs hr, List.take_drop]
  · rw [a6, ext_list xs hr, List.take_drop, show 5 + mD xs + 2 = 7 + mD xs by omega]
  · rw [a7, ext_list xs hr, strOfNums_size, List.take_drop, show 7 + mD xs + mN xs + 8 = xs.length by omega, show 5 + mD xs + 2 + mN xs = 7 + mD xs + mN xs by omega]
  · rw [a8]; exact List.drop_eq_nil_of_le (by omega)
theorem eq_msg_no (xs : List Int) (hno : xs.length ≠ 15 + mD xs + mN xs) (b : Bool) : (!mgSh xs false && ((mgRest xs).isEmpty && b)) = false := by
  cases h : mgSh xs false
  · have hl := msg_inv xs h
    obtain ⟨_, _, _, _, _, _, _, a8, _⟩ := msg_open xs hl
    have : (mgRest xs).isEmpty = false := by
      rw [a8]
      cases he : xs.drop (15 + mD xs + mN xs) with
      | nil =>
        have := congrArg List.length he
        rw [List.length_drop] at this
        simp at this
        omega
      | cons y ys => rfl
    rw [this]
    rfl
  · rfl
theorem mD_lt (xs : List Int) (hr : ∀ x ∈ xs, 0 ≤ x ∧ x ≤ 255) : mD xs < 256 := by unfold mD; have := range_at hr 4; omega
theorem mN_eq (xs : List Int) (hr : ∀ x ∈ xs, 0 ≤ x ∧ x ≤ 255) : beN (bys ((strOfNums xs).extract (5 + mD xs) (5 + mD xs + 2))) = (mN xs : Int) := by
  rw [bys_ext, bys_str xs hr]
  unfold mN
  rw [List.take_drop]
  have := beN_range ((xs.take (5 + mD xs + 2)).drop (5 + mD xs)) (fun x hx => hr x (List.mem_of_mem_take (List.mem_of_mem_drop hx)))
  omega

set_option maxHeartbeats 400000 in
theorem implReadMessage_any (v : Value) (xs : List Int) (w : World) (h : RowB w v xs) (hl : xs.length ≤ 1048576) :
    Calls Tryz.prog 120 #[v] w fun e w' => e = .returned (readMsg xs) ∧ Below w.heap.size w w' := by
  obtain ⟨kd, vw, sq, fr, dg, bd, mc, code, hf⟩ := readMsg_form xs
  have HF : Hid (readMsg xs = .tuple #[.agg #[.int .i64 kd, .int .i64 vw, .int .i64 sq, .int .i64 fr, .string dg, .string bd, .string mc], .int .i64 code]) := hf
  have h' := h
  obtain ⟨a, cap, rfl, _, _⟩ := h
  have HR : Hid (RowB w (.slice a xs.length cap) xs) := h'
  clear h' hf
  go_enter Tryz.func120, Tryz.ntmps120
  go_wp2_with fail
  refine (readJustMsg_gen _ xs _ (HR.out.below ((Below.refl _ _).alloc (Nat.le_refl _) _)) hl (beN (tkB 1 xs)) (beN (tkB 1 (tkR 1 xs))) (beN (tkB 1 (tkR 1 (tkR 1 xs)))) (beN (tkB 1 (tkR 1 (tkR 1 (tkR 1 xs))))) (mgDg xs) (mgBd xs) (mgMc xs) (mgRest xs) (mgSh xs false) (fun W p B h1 h2 h3 h4 => takeMessage_any p B xs false W h1 h2 h3 h4)).mono ?_
  rintro e w1 ⟨rfl, b1⟩
  rw [show rjV zmsg #[.int .i64 (beN (tkB 1 xs)), .int .i64 (beN (tkB 1 (tkR 1 xs))), .int .i64 (beN (tkB 1 (tkR 1 (tkR 1 xs)))), .int .i64 (beN (tkB 1 (tkR 1 (tkR 1 (tkR 1 xs))))), .string (mgDg xs), .string (mgBd xs), .string (mgMc xs)] (decide (65536 < xs.length)) (!mgSh xs false && ((mgRest xs).isEmpty && msgB (beN (tkB 1 xs)) (beN (tkB 1 (tkR 1 xs))) (beN (tkB 1 (tkR 1 (tkR 1 xs)))) (beN (tkB 1 (tkR 1 (tkR 1 (tkR 1 xs))))) (mgDg xs) (mgBd xs) (mgMc xs))) = readMsg xs from rfl, HF.out]
  have A1 : w1.heap[w.heap.size]? = some (.cells zmsg 39 (0, 0)) := (b1.block w.heap.size (by simp)).trans (blk_new w zmsg 39)
  have G1 := box_old (box_first b1)
  clear b1 HR
  obtain ⟨zc0, zf0⟩ := blk_cell A1 0 (x := .int .i64 0) rfl
  obtain ⟨zc1, zf1⟩ := blk_cell A1 1 (x := .int .i64 0) rfl
  obtain ⟨zc2, zf2⟩ := blk_cell A1 2 (x := .int .i64 0) rfl
  obtain ⟨zc3, zf3⟩ := blk_cell A1 3 (x := .int .i64 0) rfl
  obtain ⟨zc4, zf4⟩ := blk_cell A1 4 (x := .string ⟨#[]⟩) rfl
  obtain ⟨zc5, zf5⟩ := blk_cell A1 5 (x := .string ⟨#[]⟩) rfl
  obtain ⟨zc6, zf6⟩ := blk_cell A1 6 (x := .string ⟨#[]⟩) rfl
  have AF : (((((((w1.setCell ⟨w.heap.size, 0, none⟩ (.int .i64 kd)).setCell ⟨w.heap.size, 1, none⟩ (.int .i64 vw)).setCell ⟨w.heap.size, 2, none⟩ (.int .i64 sq)).setCell ⟨w.heap.size, 3, none⟩ (.int .i64 fr)).setCell ⟨w.heap.size, 4, none⟩ (.string dg)).setCell ⟨w.heap.size, 5, none⟩ (.string bd)).setCell ⟨w.heap.size, 6, none⟩ (.string mc)).heap[w.heap.size]? = some (.cells #[.int .i64 kd, .int .i64 vw, .int .i64 sq, .int .i64 fr, .string dg, .string bd, .string mc] 39 (0, 0)) := (blk_set (blk_set (blk_set (blk_set (blk_set (blk_set (blk_set A1 0 (.int .i64 kd)) 1 (.int .i64 vw)) 2 (.int .i64 sq)) 3 (.int .i64 fr)) 4 (.string dg)) 5 (.string bd)) 6 (.string mc))
  have GF : Below w.heap.size w (((((((w1.setCell ⟨w.heap.size, 0, none⟩ (.int .i64 kd)).setCell ⟨w.heap.size, 1, none⟩ (.int .i64 vw)).setCell ⟨w.heap.size, 2, none⟩ (.int .i64 sq)).setCell ⟨w.heap.size, 3, none⟩ (.int .i64 fr)).setCell ⟨w.heap.size, 4, none⟩ (.string dg)).setCell ⟨w.heap.size, 5, none⟩ (.string bd)).setCell ⟨w.heap.size, 6, none⟩ (.string mc)) := (Below.setCell (Below.setCell (Below.setCell (Below.setCell (Below.setCell (Below.setCell (Below.setCell G1 (p := ⟨w.heap.size, 0, none⟩) (Nat.le_refl _) (.int .i64 kd)) (p := ⟨w.heap.size, 1, none⟩) (Nat.le_refl _) (.int .i64 vw)) (p := ⟨w.heap.size, 2, none⟩) (Nat.le_refl _) (.int .i64 sq)) (p := ⟨w.heap.size, 3, none⟩) (Nat.le_refl _) (.int .i64 fr)) (p := ⟨w.heap.size, 4, none⟩) (Nat.le_refl _) (.string dg)) (p := ⟨w.heap.size, 5, none⟩) (Nat.le_refl _) (.string bd)) (p := ⟨w.heap.size, 6, none⟩) (Nat.le_refl _) (.string mc))
  go_wp2_with fail
  generalize (((((((w1.setCell ⟨w.heap.size, 0, none⟩ (.int .i64 kd)).setCell ⟨w.heap.size, 1, none⟩ (.int .i64 vw)).setCell ⟨w.heap.size, 2, none⟩ (.int .i64 sq)).setCell ⟨w.heap.size, 3, none⟩ (.int .i64 fr)).setCell ⟨w.heap.size, 4, none⟩ (.string dg)).setCell ⟨w.heap.size, 5, none⟩ (.string bd)).setCell ⟨w.heap.size, 6, none⟩ (.string mc)) = wf at AF GF ⊢
  have d0 := (blk_cell AF 0 (x := .int .i64 kd) rfl).1
  have d1 := (blk_cell AF 1 (x := .int .i64 vw) rfl).1
  have d2 := (blk_cell AF 2 (x := .int .i64 sq) rfl).1
  have d3 := (blk_cell AF 3 (x := .int .i64 fr) rfl).1
  have d4 := (blk_cell AF 4 (x := .string dg) rfl).1
  have d5 := (blk_cell AF 5 (x := .string bd) rfl).1
  have d6 := (blk_cell AF 6 (x := .string mc) rfl).1
  refine bodyPost_ret (v := .tuple #[.agg #[.int .i64 kd, .int .i64 vw, .int .i64 sq, .int .i64 fr, .string dg, .string bd, .string mc], .int .i64 code]) (by simp [results, Tryz.results120, go_sem, d0, d1, d2, d3, d4, d5, d6]) rfl ⟨ret_val HF.out.symm, GF⟩

end Go.Proofs.YtddmdnljfnimbaaGreatDoor.Om
