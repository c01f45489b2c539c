/- A batch is read: both ReadBatch functions answer alike. -/
import Derived.Test.YtdeologdmdimoaaSbt
namespace Go.Proofs.Ytdeologdmdimoaa.Tkb
open Go.RowKit Go.Proofs.Ytdeologdmdimoaa.Sl Go.Proofs.Ytdeologdmdimoaa.By Go.Proofs.Ytdeologdmdimoaa.Ap Go.Proofs.Ytdeologdmdimoaa.Rq Go.Proofs.Ytdeologdmdimoaa.Rr Go.Proofs.Ytdeologdmdimoaa.Gr Go.Proofs.Ytdeologdmdimoaa.Bo Go.Proofs.Ytdeologdmdimoaa.Of
open Go.Proofs.Ytdeologdmdimoaa.Rg (RowG RowG.slice RowG.at lt_at mem_at bel_new)

theorem rbX_len (xs : List Int) (hr : ∀ x ∈ xs, 0 ≤ x ∧ x ≤ 255) (hl : xs.length ≤ 1048576) : (rbX xs).rs.length ≤ 255 := by
  have h := (tbX_small xs hr hl).2
  unfold rbX rjX
  split
  · exact Nat.zero_le _
  · split
    · exact h
    · exact Nat.zero_le _
set_option maxRecDepth 100000 in
set_option maxHeartbeats 1600000 in
theorem specReadBatch_any (v : Value) (xs : List Int) (w : World) (h : RowB w v xs) (_hl : xs.length ≤ 1048576) :
    Calls Try.prog 27 #[v] w fun e w' => ∃ u, e = .returned (.tuple #[bV (rbX xs) u, .int .i64 (rbC xs)]) ∧ OwnR w' w.heap.size u (rbX xs).rs ∧ Below w.heap.size w w' := by
  have hr : ∀ x ∈ xs, 0 ≤ x ∧ x ≤ 255 := by obtain ⟨_, _, _, _, h⟩ := h; exact h
  have hu := RowU.of h
  obtain ⟨a, cap, rfl, _, _⟩ := h
  obtain ⟨RX, HRX⟩ : ∃ RX, Hid (rbX xs = RX) := ⟨_, rfl⟩
  obtain ⟨RC, HRC⟩ : ∃ RC, Hid (rbC xs = RC) := ⟨_, rfl⟩
  rw [HRX.out, HRC.out]
  by_cases hb : 65536 < xs.length
  · have hb' : (65536 : Int) < (xs.length : Int) := by omega
    have HN : Hid (RX = zBv ∧ RC = 2) := by
      show _ ∧ _
      rw [← HRX.out, ← HRC.out]
      unfold rbX rbC
      rw [decide_eq_true hb]
      exact ⟨rfl, rfl⟩
    have HB0 : Hid (Below w.heap.size w (w.alloc (.cells #[.bool false, .int .i64 0, .int .i64 0, .int .i64 0, .int .i64 0, .string ⟨#[]⟩, .slice none 0 0] 52))) := bel_new _ _
    clear hu hr
    go_enter Try.func27, Try.ntmps27
    go_wp2_with fail
    exact bodyPost_ret (v := .tuple #[.agg zbat, .int .i64 2]) (by simp [zbat, results, Try.results27, go_sem]) rfl ⟨_, ret_x HN.out, by rw [HN.out.1]; exact OwnR.nil _ _, HB0.out⟩
  have hb' : (xs.length : Int) ≤ 65536 := by omega
  have hcv := run_convert_row (P := Try.prog) (w.alloc (.cells #[.bool false, .int .i64 0, .int .i64 0, .int .i64 0, .int .i64 0, .string ⟨#[]⟩, .slice none 0 0] 52)) w.heap.size 33 5 9 Try.underlying33 Try.underlying5 Try.underlying9 _ xs (hu.kept (fun k hk => Below.heap_alloc w _ k hk))
  have HL6 := l02ReadBatch_any (strOfNums xs) (w.alloc (.cells #[.bool false, .int .i64 0, .int .i64 0, .int .i64 0, .int .i64 0, .string ⟨#[]⟩, .slice none 0 0] 52)) (by rw [strOfNums_size]; omega)
  rw [bys_str xs hr] at HL6
  have HRT : Hid (RX = (if rbOK xs then tbX xs else zBv) ∧ RC = (if rbOK xs then 0 else 3)) := by
    show _ ∧ _
    rw [← HRX.out, ← HRC.out]
    unfold rbX rbC rjX rjC
    rw [decide_eq_false hb]
    exact ⟨rfl, rfl⟩
  obtain ⟨ok, HOK⟩ : ∃ ok, Hid (rbOK xs = ok) := ⟨_, rfl⟩
  obtain ⟨tx, HTX⟩ : ∃ tx, Hid (tbX xs = tx) := ⟨_, rfl⟩
  rw [HOK.out, HTX.out] at HL6 HRT
  clear hu hr hb HRX HRC HOK HTX
  generalize strOfNums xs = s at hcv HL6
  go_enter Try.func27, Try.ntmps27
  go_wp2_with fail
  refine HL6.mono ?_
  rintro e w1 ⟨x, u1, rfl, hx, o1, b1⟩
  have HX : Hid (ok = true → x = tx) := hx
  have K0 : w1.heap[w.heap.size]? = some (.cells zbat 52 (0, 0)) := (b1.block w.heap.size (by simp)).trans (heap_alloc_new w _)
  have KB : Below w.heap.size w w1 := (bel_new w _).trans (b1.mono (by simp))
  have k0l := (Array.getElem?_eq_some_iff.1 K0).1
  obtain ⟨a4, cap4, rfl⟩ := RowG.slice (OwnR.row o1)
  unfold bV batV
  have K02 : (w1.alloc (.cells #[.bool x.nl, .int .i64 x.c, .int .i64 x.st, .int .i64 x.k, .int .i64 x.l, .string x.n, .slice a4 x.rs.length cap4] 52)).heap[w.heap.size]? = some (.cells zbat 52 (0, 0)) := (Below.heap_alloc w1 _ _ k0l).trans K0
  have X2 : (w1.alloc (.cells #[.bool x.nl, .int .i64 x.c, .int .i64 x.st, .int .i64 x.k, .int .i64 x.l, .string x.n, .slice a4 x.rs.length cap4] 52)).heap[w1.heap.size]? = some (.cells #[.bool x.nl, .int .i64 x.c, .int .i64 x.st, .int .i64 x.k, .int .i64 x.l, .string x.n, .slice a4 x.rs.length cap4] 52 (0, 0)) := heap_alloc_new w1 _
  have KB2 : Below w.heap.size w (w1.alloc (.cells #[.bool x.nl, .int .i64 x.c, .int .i64 x.st, .int .i64 x.k, .int .i64 x.l, .string x.n, .slice a4 x.rs.length cap4] 52)) := KB.alloc KB.size _
  have O2 : Hid (OwnR (w1.alloc (.cells #[.bool x.nl, .int .i64 x.c, .int .i64 x.st, .int .i64 x.k, .int .i64 x.l, .string x.n, .slice a4 x.rs.length cap4] 52)) (w.heap.size + 1) (.slice a4 x.rs.length cap4) x.rs) := (o1.mono (by simp)).alloc _
  clear o1 b1 K0 KB k0l HL6 hcv hx
  go_upto_region 4 with fail
  generalize w1.alloc (.cells #[.bool x.nl, .int .i64 x.c, .int .i64 x.st, .int .i64 x.k, .int .i64 x.l, .string x.n, .slice a4 x.rs.length cap4] 52) = w2 at K02 X2 KB2 O2 ⊢
  generalize w1.heap.size = x1 at X2 ⊢
  cases ok
  case false =>
    have HN : Hid (RX = zBv ∧ RC = 3) := HRT.out
    clear X2 O2
    obtain ⟨zc0, zf0⟩ := blk_cell K02 0 (x := .bool false) rfl
    obtain ⟨zc1, zf1⟩ := blk_cell K02 1 (x := .int .i64 0) rfl
    obtain ⟨zc2, zf2⟩ := blk_cell K02 2 (x := .int .i64 0) rfl
    obtain ⟨zc3, zf3⟩ := blk_cell K02 3 (x := .int .i64 0) rfl
    obtain ⟨zc4, zf4⟩ := blk_cell K02 4 (x := .int .i64 0) rfl
    obtain ⟨zc5, zf5⟩ := blk_cell K02 5 (x := .string ⟨#[]⟩) rfl
    obtain ⟨zc6, zf6⟩ := blk_cell K02 6 (x := .slice none 0 0) rfl
    have AF : (((((((w2.setCell ⟨w.heap.size, 0, none⟩ (.bool false)).setCell ⟨w.heap.size, 1, none⟩ (.int .i64 0)).setCell ⟨w.heap.size, 2, none⟩ (.int .i64 0)).setCell ⟨w.heap.size, 3, none⟩ (.int .i64 0)).setCell ⟨w.heap.size, 4, none⟩ (.int .i64 0)).setCell ⟨w.heap.size, 5, none⟩ (.string ⟨#[]⟩)).setCell ⟨w.heap.size, 6, none⟩ (.slice none 0 0)).heap[w.heap.size]? = some (.cells #[.bool false, .int .i64 0, .int .i64 0, .int .i64 0, .int .i64 0, .string ⟨#[]⟩, .slice none 0 0] 52 (0, 0)) := (blk_set (blk_set (blk_set (blk_set (blk_set (blk_set (blk_set K02 0 (.bool false)) 1 (.int .i64 0)) 2 (.int .i64 0)) 3 (.int .i64 0)) 4 (.int .i64 0)) 5 (.string ⟨#[]⟩)) 6 (.slice none 0 0))
    have GF : Hid (Below w.heap.size w (((((((w2.setCell ⟨w.heap.size, 0, none⟩ (.bool false)).setCell ⟨w.heap.size, 1, none⟩ (.int .i64 0)).setCell ⟨w.heap.size, 2, none⟩ (.int .i64 0)).setCell ⟨w.heap.size, 3, none⟩ (.int .i64 0)).setCell ⟨w.heap.size, 4, none⟩ (.int .i64 0)).setCell ⟨w.heap.size, 5, none⟩ (.string ⟨#[]⟩)).setCell ⟨w.heap.size, 6, none⟩ (.slice none 0 0))) := (Below.setCell (Below.setCell (Below.setCell (Below.setCell (Below.setCell (Below.setCell (Below.setCell KB2 (p := ⟨w.heap.size, 0, none⟩) (Nat.le_refl _) (.bool false)) (p := ⟨w.heap.size, 1, none⟩) (Nat.le_refl _) (.int .i64 0)) (p := ⟨w.heap.size, 2, none⟩) (Nat.le_refl _) (.int .i64 0)) (p := ⟨w.heap.size, 3, none⟩) (Nat.le_refl _) (.int .i64 0)) (p := ⟨w.heap.size, 4, none⟩) (Nat.le_refl _) (.int .i64 0)) (p := ⟨w.heap.size, 5, none⟩) (Nat.le_refl _) (.string ⟨#[]⟩)) (p := ⟨w.heap.size, 6, none⟩) (Nat.le_refl _) (.slice none 0 0))
    go_wp2_with fail
    generalize (((((((w2.setCell ⟨w.heap.size, 0, none⟩ (.bool false)).setCell ⟨w.heap.size, 1, none⟩ (.int .i64 0)).setCell ⟨w.heap.size, 2, none⟩ (.int .i64 0)).setCell ⟨w.heap.size, 3, none⟩ (.int .i64 0)).setCell ⟨w.heap.size, 4, none⟩ (.int .i64 0)).setCell ⟨w.heap.size, 5, none⟩ (.string ⟨#[]⟩)).setCell ⟨w.heap.size, 6, none⟩ (.slice none 0 0)) = wf at AF GF ⊢
    have d0 := (blk_cell AF 0 (x := .bool false) rfl).1
    have d1 := (blk_cell AF 1 (x := .int .i64 0) rfl).1
    have d2 := (blk_cell AF 2 (x := .int .i64 0) rfl).1
    have d3 := (blk_cell AF 3 (x := .int .i64 0) rfl).1
    have d4 := (blk_cell AF 4 (x := .int .i64 0) rfl).1
    have d5 := (blk_cell AF 5 (x := .string ⟨#[]⟩) rfl).1
    have d6 := (blk_cell AF 6 (x := .slice none 0 0) rfl).1
    refine bodyPost_ret (v := .tuple #[.agg #[.bool false, .int .i64 0, .int .i64 0, .int .i64 0, .int .i64 0, .string ⟨#[]⟩, .slice none 0 0], .int .i64 3]) (by simp [results, Try.results27, go_sem, d0, d1, d2, d3, d4, d5, d6]) rfl ⟨_, ret_x HN.out, by rw [HN.out.1]; exact OwnR.nil _ _, GF.out⟩
  case true =>
    have HN : Hid (RX = x ∧ RC = 0) := ⟨HRT.out.1.trans (HX.out rfl).symm, HRT.out.2⟩
    have xc0 := (blk_cell X2 0 (x := .bool x.nl) rfl).1
    have xc1 := (blk_cell X2 1 (x := .int .i64 x.c) rfl).1
    have xc2 := (blk_cell X2 2 (x := .int .i64 x.st) rfl).1
    have xc3 := (blk_cell X2 3 (x := .int .i64 x.k) rfl).1
    have xc4 := (blk_cell X2 4 (x := .int .i64 x.l) rfl).1
    have xc5 := (blk_cell X2 5 (x := .string x.n) rfl).1
    have xc6 := (blk_cell X2 6 (x := .slice a4 x.rs.length cap4) rfl).1
    obtain ⟨zc0, zf0⟩ := blk_cell K02 0 (x := .bool false) rfl
    obtain ⟨zc1, zf1⟩ := blk_cell K02 1 (x := .int .i64 0) rfl
    obtain ⟨zc2, zf2⟩ := blk_cell K02 2 (x := .int .i64 0) rfl
    obtain ⟨zc3, zf3⟩ := blk_cell K02 3 (x := .int .i64 0) rfl
    obtain ⟨zc4, zf4⟩ := blk_cell K02 4 (x := .int .i64 0) rfl
    obtain ⟨zc5, zf5⟩ := blk_cell K02 5 (x := .string ⟨#[]⟩) rfl
    obtain ⟨zc6, zf6⟩ := blk_cell K02 6 (x := .slice none 0 0) rfl
    have AF : (((((((w2.setCell ⟨w.heap.size, 0, none⟩ (.bool x.nl)).setCell ⟨w.heap.size, 1, none⟩ (.int .i64 x.c)).setCell ⟨w.heap.size, 2, none⟩ (.int .i64 x.st)).setCell ⟨w.heap.size, 3, none⟩ (.int .i64 x.k)).setCell ⟨w.heap.size, 4, none⟩ (.int .i64 x.l)).setCell ⟨w.heap.size, 5, none⟩ (.string x.n)).setCell ⟨w.heap.size, 6, none⟩ (.slice a4 x.rs.length cap4)).heap[w.heap.size]? = some (.cells #[.bool x.nl, .int .i64 x.c, .int .i64 x.st, .int .i64 x.k, .int .i64 x.l, .string x.n, .slice a4 x.rs.length cap4] 52 (0, 0)) := (blk_set (blk_set (blk_set (blk_set (blk_set (blk_set (blk_set K02 0 (.bool x.nl)) 1 (.int .i64 x.c)) 2 (.int .i64 x.st)) 3 (.int .i64 x.k)) 4 (.int .i64 x.l)) 5 (.string x.n)) 6 (.slice a4 x.rs.length cap4))
    have GF : Hid (Below w.heap.size w (((((((w2.setCell ⟨w.heap.size, 0, none⟩ (.bool x.nl)).setCell ⟨w.heap.size, 1, none⟩ (.int .i64 x.c)).setCell ⟨w.heap.size, 2, none⟩ (.int .i64 x.st)).setCell ⟨w.heap.size, 3, none⟩ (.int .i64 x.k)).setCell ⟨w.heap.size, 4, none⟩ (.int .i64 x.l)).setCell ⟨w.heap.size, 5, none⟩ (.string x.n)).setCell ⟨w.heap.size, 6, none⟩ (.slice a4 x.rs.length cap4))) := (Below.setCell (Below.setCell (Below.setCell (Below.setCell (Below.setCell (Below.setCell (Below.setCell KB2 (p := ⟨w.heap.size, 0, none⟩) (Nat.le_refl _) (.bool x.nl)) (p := ⟨w.heap.size, 1, none⟩) (Nat.le_refl _) (.int .i64 x.c)) (p := ⟨w.heap.size, 2, none⟩) (Nat.le_refl _) (.int .i64 x.st)) (p := ⟨w.heap.size, 3, none⟩) (Nat.le_refl _) (.int .i64 x.k)) (p := ⟨w.heap.size, 4, none⟩) (Nat.le_refl _) (.int .i64 x.l)) (p := ⟨w.heap.size, 5, none⟩) (Nat.le_refl _) (.string x.n)) (p := ⟨w.heap.size, 6, none⟩) (Nat.le_refl _) (.slice a4 x.rs.length cap4))
    have OF : Hid (OwnR (((((((w2.setCell ⟨w.heap.size, 0, none⟩ (.bool x.nl)).setCell ⟨w.heap.size, 1, none⟩ (.int .i64 x.c)).setCell ⟨w.heap.size, 2, none⟩ (.int .i64 x.st)).setCell ⟨w.heap.size, 3, none⟩ (.int .i64 x.k)).setCell ⟨w.heap.size, 4, none⟩ (.int .i64 x.l)).setCell ⟨w.heap.size, 5, none⟩ (.string x.n)).setCell ⟨w.heap.size, 6, none⟩ (.slice a4 x.rs.length cap4)) w.heap.size (.slice a4 x.rs.length cap4) x.rs) := (O2.out.mono (by omega)).kept (fun g hg => by have := (O2.out.lt g hg).1; exact ((blk_far (by omega) 6 (.slice a4 x.rs.length cap4)).trans ((blk_far (by omega) 5 (.string x.n)).trans ((blk_far (by omega) 4 (.int .i64 x.l)).trans ((blk_far (by omega) 3 (.int .i64 x.k)).trans ((blk_far (by omega) 2 (.int .i64 x.st)).trans ((blk_far (by omega) 1 (.int .i64 x.c)).trans (blk_far (by omega) 0 (.bool x.nl)))))))))
    go_wp2_with fail
    generalize (((((((w2.setCell ⟨w.heap.size, 0, none⟩ (.bool x.nl)).setCell ⟨w.heap.size, 1, none⟩ (.int .i64 x.c)).setCell ⟨w.heap.size, 2, none⟩ (.int .i64 x.st)).setCell ⟨w.heap.size, 3, none⟩ (.int .i64 x.k)).setCell ⟨w.heap.size, 4, none⟩ (.int .i64 x.l)).setCell ⟨w.heap.size, 5, none⟩ (.string x.n)).setCell ⟨w.heap.size, 6, none⟩ (.slice a4 x.rs.length cap4)) = wf at AF GF OF ⊢
    have d0 := (blk_cell AF 0 (x := .bool x.nl) rfl).1
    have d1 := (blk_cell AF 1 (x := .int .i64 x.c) rfl).1
    have d2 := (blk_cell AF 2 (x := .int .i64 x.st) rfl).1
    have d3 := (blk_cell AF 3 (x := .int .i64 x.k) rfl).1
    have d4 := (blk_cell AF 4 (x := .int .i64 x.l) rfl).1
    have d5 := (blk_cell AF 5 (x := .string x.n) rfl).1
    have d6 := (blk_cell AF 6 (x := .slice a4 x.rs.length cap4) rfl).1
    refine bodyPost_ret (v := .tuple #[.agg #[.bool x.nl, .int .i64 x.c, .int .i64 x.st, .int .i64 x.k, .int .i64 x.l, .string x.n, .slice a4 x.rs.length cap4], .int .i64 0]) (by simp [results, Try.results27, go_sem, d0, d1, d2, d3, d4, d5, d6]) rfl ⟨_, ret_x HN.out, by rw [HN.out.1]; exact OF.out, GF.out⟩

end Go.Proofs.Ytdeologdmdimoaa.Tkb
