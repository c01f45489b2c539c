/- A grant is read from its text: the program. -/
import Derived.Test.YtimmeclclilpdaaDoorGrj
namespace Go.Proofs.YtimmeclclilpdaaDoor.Gr12
open Go.RowKit Go.Sort Go.Proofs.YtimmeclclilpdaaDoor.Ap Go.Proofs.YtimmeclclilpdaaDoor.Tx
open Go.Proofs.YtimmeclclilpdaaDoor.Rq (inB ret_bool)

theorem goD_small : ∀ (f : Nat) (cur l : List UInt8), ∀ x ∈ Lib.fieldsGoD f cur l, x.length ≤ cur.length + l.length
  | 0, cur, l, x, h => by
    unfold Lib.fieldsGoD at h
    split at h
    · cases h
    · simp at h; subst h; omega
  | f + 1, cur, l, x, h => by
    unfold Lib.fieldsGoD at h
    split at h
    · split at h
      · cases h
      · simp at h; subst h; omega
    · split at h
      · rcases List.mem_append.1 h with h | h
        · split at h
          · cases h
          · simp at h; subst h; omega
        · have := goD_small f [] _ x h
          rw [List.length_drop] at this
          simp at this
          omega
      · have := goD_small f _ _ x h
        rw [List.length_append, List.length_take, List.length_drop] at this
        omega
theorem fld_small {t : ByteArray} : ∀ s ∈ fldS t, s.size ≤ t.size := by
  intro s hs
  unfold fldS at hs
  obtain ⟨l, hl, rfl⟩ := List.mem_map.1 hs
  have := goD_small _ _ _ l hl
  rw [baL_size]
  simpa using this
theorem gOf_words (s1 s2 s3 s4 : ByteArray) : gOf grB s1.data.toList s2.data.toList s3.data.toList s4.data.toList = if nB s2 && (nB s3 && (nB s4 && grB (gW s1 s2 s3 s4))) then some (gW s1 s2 s3 s4) else none := gOf_vals _ _ _ _
theorem rim_vals {t : ByteArray} : rim grB (Lib.fieldsD t.data.toList) t = if giB (fldS t) = true ∧ grB (giG (fldS t)) = true ∧ tx (giG (fldS t)) = t then some (giG (fldS t)) else none := by
  by_cases h5 : (fldS t).length = 5
  · obtain ⟨s0, s1, s2, s3, s4, HF⟩ := five h5
    have e : Lib.fieldsD t.data.toList = [s0.data.toList, s1.data.toList, s2.data.toList, s3.data.toList, s4.data.toList] := by
      have := congrArg (List.map fun s : ByteArray => s.data.toList) HF
      unfold fldS at this
      rw [List.map_map] at this
      rw [← List.map_id (Lib.fieldsD t.data.toList)]
      exact this
    rw [HF, (gi_five s0 s1 s2 s3 s4).1, (gi_five s0 s1 s2 s3 s4).2]
    unfold rim
    rw [e]
    simp only
    rw [gOf_words]
    cases h : (nB s2 && (nB s3 && nB s4)) with
    | false =>
      have h' : (nB s2 && (nB s3 && (nB s4 && grB (gW s1 s2 s3 s4)))) = false := by
        rcases Bool.and_eq_false_iff.1 h with h | h
        · rw [h]; rfl
        · rcases Bool.and_eq_false_iff.1 h with h | h
          · rw [h, Bool.false_and, Bool.and_false]
          · rw [h, Bool.false_and, Bool.and_false, Bool.and_false]
      rw [h']
      rfl
    | true =>
      simp only [Bool.and_eq_true] at h
      rw [h.1, h.2.1, h.2.2]
      simp only [Bool.true_and, if_true, true_and]
      cases hg : grB (gW s1 s2 s3 s4) with
      | false => simp
      | true => simp
  · rw [(gi_len h5).2]
    have : rim grB (Lib.fieldsD t.data.toList) t = none := by
      unfold rim
      split
      · rename_i hc
        exfalso; apply h5
        unfold fldS
        rw [hc]
        rfl
      · rfl
    rw [this]
    simp
theorem rsp_rim (t : ByteArray) : rsp grB t = if giB (fldS t) = true ∧ grB (giG (fldS t)) = true ∧ tx (giG (fldS t)) = t then some (giG (fldS t)) else none := by
  rw [← rim_vals]
  exact (rim_rsp grB grB_ok _ t (fun ha => Lib.fieldsD_ascii _ ha)).symm
set_option maxRecDepth 100000 in
set_option maxHeartbeats 1600000 in
theorem implReadGrant_any (t : ByteArray) (w : World) (_ht : t.size ≤ 1048576) (hP : PTab w) (hS : STab w) :
    Calls Tryd.prog 12 #[.string t] w fun e w' => e = .returned (.tuple #[gV (rdG t), .int .i64 (rdC t)]) ∧ Below w.heap.size w w' := by
  by_cases hl : 65536 < t.size
  · have HE : Hid (rdG t = zG ∧ rdC t = 2) := rd_long hl
    have h1 : (65536 : Int) < (t.size : Int) := by omega
    go_enter Tryd.func12, Tryd.ntmps12
    go_wp2_with fail
    refine bodyPost_ret (v := .tuple #[.agg #[.string ⟨#[]⟩, .int .i64 0, .int .i64 0, .int .i64 0], .int .i64 2]) (by simp [results, Tryd.results12, go_sem]) rfl ⟨by rw [HE.out.1, HE.out.2]; rfl, bel1 _ _⟩
  have h1 : ¬ (65536 : Int) < (t.size : Int) := by omega
  have HLN : Hid (¬ 65536 < t.size) := hl
  have HTS : Hid (t.size ≤ 70000) := by show t.size ≤ 70000; omega
  have HT : Hid (∀ W, Below w.heap.size w W → PTab W ∧ STab W) := fun W hW => ⟨hP.below hW, hS.below hW⟩
  have HZ : Hid (∀ W, Below (w.alloc (.cells #[.string ⟨#[]⟩, .int .i64 0, .int .i64 0, .int .i64 0] 24)).heap.size (w.alloc (.cells #[.string ⟨#[]⟩, .int .i64 0, .int .i64 0, .int .i64 0] 24)) W → W.heap[w.heap.size]? = some (.cells #[.string ⟨#[]⟩, .int .i64 0, .int .i64 0, .int .i64 0] 24 (0, 0)) ∧ Below w.heap.size w W ∧ w.heap.size + 1 ≤ W.heap.size) := fun W hW => ⟨(hW.block w.heap.size (by simp)).trans (heap_alloc_new w _), (bel1 w _).trans (hW.mono (by simp)), by have := hW.size; simp at this; omega⟩
  have HR : Hid (rsp grB t = if giB (fldS t) = true ∧ grB (giG (fldS t)) = true ∧ tx (giG (fldS t)) = t then some (giG (fldS t)) else none) := rsp_rim t
  obtain ⟨g, HGG⟩ : ∃ g, Hid (giG (fldS t) = g) := ⟨_, rfl⟩
  obtain ⟨q, HBB⟩ : ∃ q, Hid (giB (fldS t) = q) := ⟨_, rfl⟩
  have HGS : Hid (g.nm.size ≤ maxLen) := by
    show g.nm.size ≤ maxLen
    rw [← HGG.out]
    by_cases h5 : (fldS t).length = 5
    · obtain ⟨s0, s1, s2, s3, s4, HF⟩ := five h5
      have hz := fld_small (t := t) s1 (by rw [HF]; simp)
      rw [HF, (gi_five s0 s1 s2 s3 s4).1]
      split
      · show s1.size ≤ maxLen; unfold maxLen; omega
      · show 0 ≤ maxLen; unfold maxLen; omega
    · rw [(gi_len h5).1]; show 0 ≤ maxLen; unfold maxLen; omega
  have HOK : Hid (∀ W, Calls Tryd.prog 13 #[.agg #[.string g.nm, .int .i64 g.hd, .int .i64 g.tk, .int .i64 g.ex]] W fun e w' => e = .returned (.bool (grB g)) ∧ Below W.heap.size W w') := fun W => implGrantOK_any g W HGS.out
  clear hl hP hS _ht
  cases q with
  | false =>
    have HE : Hid (rdG t = zG ∧ rdC t = 3) := rd_none HLN.out (by rw [HR.out, HBB.out]; simp)
    clear HR
    go_enter Tryd.func12, Tryd.ntmps12
    go_upto_region 3 with fail
    generalize (w.alloc (.cells #[.string ⟨#[]⟩, .int .i64 0, .int .i64 0, .int .i64 0] 24)) = wb at HZ ⊢
    have HF := fields_any t wb HTS.out (HT.out wb (HZ.out wb (Below.refl _ _)).2.1).2
    go_wp2_with fail
    refine HF.mono ?_
    rintro e w1 ⟨v, rfl, r1, b1⟩
    have B1 : Hid (RowT w1 v (fldS t) ∧ Below wb.heap.size wb w1) := ⟨r1, b1⟩
    have HGI := grantIn_any v (fldS t) w1 r1 (fun s hs => Nat.le_trans (fld_small s hs) HTS.out)
    rw [HGG.out, HBB.out] at HGI
    unfold gV at HGI
    clear r1 b1 HF
    go_wp2_with fail
    refine HGI.mono ?_
    rintro e w2 ⟨rfl, b2⟩
    have B2 : Hid (Below wb.heap.size wb w2) := B1.out.2.trans (b2.mono B1.out.2.size)
    clear b2 HGI
    have HB3 : Hid (∀ W, Below (w2.alloc (.cells #[.string g.nm, .int .i64 g.hd, .int .i64 g.tk, .int .i64 g.ex] 24)).heap.size (w2.alloc (.cells #[.string g.nm, .int .i64 g.hd, .int .i64 g.tk, .int .i64 g.ex] 24)) W → W.heap[w.heap.size]? = some (.cells #[.string ⟨#[]⟩, .int .i64 0, .int .i64 0, .int .i64 0] 24 (0, 0)) ∧ Below w.heap.size w W ∧ W.heap[w2.heap.size]? = some (.cells #[.string g.nm, .int .i64 g.hd, .int .i64 g.tk, .int .i64 g.ex] 24 (0, 0))) := fun W hW => ⟨((hW.block _ (by have := (HZ.out _ B2.out).2.2; simp; omega)).trans ((bel1 w2 _).block _ (by have := (HZ.out _ B2.out).2.2; omega))).trans (HZ.out _ B2.out).1, ((HZ.out _ B2.out).2.1.trans ((bel1 w2 _).mono (HZ.out _ B2.out).2.1.size)).trans (hW.mono (by have := (HZ.out _ B2.out).2.2; simp; omega)), (hW.block _ (by simp)).trans (heap_alloc_new w2 _)⟩
    go_upto_region 4 with fail
    generalize (w2.alloc (.cells #[.string g.nm, .int .i64 g.hd, .int .i64 g.tk, .int .i64 g.ex] 24)) = w3 at HB3 ⊢
    obtain ⟨a1, a2, a3⟩ := HB3.out w3 (Below.refl _ _)
    have k0 := (blk_cell a3 0 (x := .string g.nm) rfl).1
    have k1 := (blk_cell a3 1 (x := .int .i64 g.hd) rfl).1
    have k2 := (blk_cell a3 2 (x := .int .i64 g.tk) rfl).1
    have k3 := (blk_cell a3 3 (x := .int .i64 g.ex) rfl).1
    have AX : Hid (w3.heap[w.heap.size]? = some (.cells #[.string ⟨#[]⟩, .int .i64 0, .int .i64 0, .int .i64 0] 24 (0, 0))) := a1
    have GX : Hid (Below w.heap.size w w3) := a2
    clear a1 a2 a3 k0 k1 k2 k3
    obtain ⟨zc0, zf0⟩ := blk_cell AX.out 0 (x := .string ⟨#[]⟩) rfl
    obtain ⟨zc1, zf1⟩ := blk_cell AX.out 1 (x := .int .i64 0) rfl
    obtain ⟨zc2, zf2⟩ := blk_cell AX.out 2 (x := .int .i64 0) rfl
    obtain ⟨zc3, zf3⟩ := blk_cell AX.out 3 (x := .int .i64 0) rfl
    have AF : ((((w3.setCell ⟨w.heap.size, 0, none⟩ (.string ⟨#[]⟩)).setCell ⟨w.heap.size, 1, none⟩ (.int .i64 0)).setCell ⟨w.heap.size, 2, none⟩ (.int .i64 0)).setCell ⟨w.heap.size, 3, none⟩ (.int .i64 0)).heap[w.heap.size]? = some (.cells #[.string ⟨#[]⟩, .int .i64 0, .int .i64 0, .int .i64 0] 24 (0, 0)) := (blk_set (blk_set (blk_set (blk_set AX.out 0 (.string ⟨#[]⟩)) 1 (.int .i64 0)) 2 (.int .i64 0)) 3 (.int .i64 0))
    have GF : Below w.heap.size w ((((w3.setCell ⟨w.heap.size, 0, none⟩ (.string ⟨#[]⟩)).setCell ⟨w.heap.size, 1, none⟩ (.int .i64 0)).setCell ⟨w.heap.size, 2, none⟩ (.int .i64 0)).setCell ⟨w.heap.size, 3, none⟩ (.int .i64 0)) := (Below.setCell (Below.setCell (Below.setCell (Below.setCell GX.out (p := ⟨w.heap.size, 0, none⟩) (Nat.le_refl _) (.string ⟨#[]⟩)) (p := ⟨w.heap.size, 1, none⟩) (Nat.le_refl _) (.int .i64 0)) (p := ⟨w.heap.size, 2, none⟩) (Nat.le_refl _) (.int .i64 0)) (p := ⟨w.heap.size, 3, none⟩) (Nat.le_refl _) (.int .i64 0))
    go_wp2_with fail
    generalize ((((w3.setCell ⟨w.heap.size, 0, none⟩ (.string ⟨#[]⟩)).setCell ⟨w.heap.size, 1, none⟩ (.int .i64 0)).setCell ⟨w.heap.size, 2, none⟩ (.int .i64 0)).setCell ⟨w.heap.size, 3, none⟩ (.int .i64 0)) = wf at AF GF ⊢
    have d0 := (blk_cell AF 0 (x := .string ⟨#[]⟩) rfl).1
    have d1 := (blk_cell AF 1 (x := .int .i64 0) rfl).1
    have d2 := (blk_cell AF 2 (x := .int .i64 0) rfl).1
    have d3 := (blk_cell AF 3 (x := .int .i64 0) rfl).1
    refine bodyPost_ret (v := .tuple #[.agg #[.string ⟨#[]⟩, .int .i64 0, .int .i64 0, .int .i64 0], .int .i64 3]) (by simp [results, Tryd.results12, go_sem, d0, d1, d2, d3]) rfl ⟨by rw [HE.out.1, HE.out.2]; rfl, GF⟩
  | true =>
    cases ho : grB g with
    | false =>
      have HE : Hid (rdG t = zG ∧ rdC t = 3) := rd_none HLN.out (by rw [HR.out, HBB.out, HGG.out, ho]; simp)
      rw [ho] at HOK
      clear HR ho
      go_enter Tryd.func12, Tryd.ntmps12
      go_upto_region 3 with fail
      generalize (w.alloc (.cells #[.string ⟨#[]⟩, .int .i64 0, .int .i64 0, .int .i64 0] 24)) = wb at HZ ⊢
      have HF := fields_any t wb HTS.out (HT.out wb (HZ.out wb (Below.refl _ _)).2.1).2
      go_wp2_with fail
      refine HF.mono ?_
      rintro e w1 ⟨v, rfl, r1, b1⟩
      have B1 : Hid (RowT w1 v (fldS t) ∧ Below wb.heap.size wb w1) := ⟨r1, b1⟩
      have HGI := grantIn_any v (fldS t) w1 r1 (fun s hs => Nat.le_trans (fld_small s hs) HTS.out)
      rw [HGG.out, HBB.out] at HGI
      unfold gV at HGI
      clear r1 b1 HF
      go_wp2_with fail
      refine HGI.mono ?_
      rintro e w2 ⟨rfl, b2⟩
      have B2 : Hid (Below wb.heap.size wb w2) := B1.out.2.trans (b2.mono B1.out.2.size)
      clear b2 HGI
      have HB3 : Hid (∀ W, Below (w2.alloc (.cells #[.string g.nm, .int .i64 g.hd, .int .i64 g.tk, .int .i64 g.ex] 24)).heap.size (w2.alloc (.cells #[.string g.nm, .int .i64 g.hd, .int .i64 g.tk, .int .i64 g.ex] 24)) W → W.heap[w.heap.size]? = some (.cells #[.string ⟨#[]⟩, .int .i64 0, .int .i64 0, .int .i64 0] 24 (0, 0)) ∧ Below w.heap.size w W ∧ W.heap[w2.heap.size]? = some (.cells #[.string g.nm, .int .i64 g.hd, .int .i64 g.tk, .int .i64 g.ex] 24 (0, 0))) := fun W hW => ⟨((hW.block _ (by have := (HZ.out _ B2.out).2.2; simp; omega)).trans ((bel1 w2 _).block _ (by have := (HZ.out _ B2.out).2.2; omega))).trans (HZ.out _ B2.out).1, ((HZ.out _ B2.out).2.1.trans ((bel1 w2 _).mono (HZ.out _ B2.out).2.1.size)).trans (hW.mono (by have := (HZ.out _ B2.out).2.2; simp; omega)), (hW.block _ (by simp)).trans (heap_alloc_new w2 _)⟩
      go_upto_region 4 with fail
      generalize (w2.alloc (.cells #[.string g.nm, .int .i64 g.hd, .int .i64 g.tk, .int .i64 g.ex] 24)) = w3 at HB3 ⊢
      obtain ⟨a1, a2, a3⟩ := HB3.out w3 (Below.refl _ _)
      have k0 := (blk_cell a3 0 (x := .string g.nm) rfl).1
      have k1 := (blk_cell a3 1 (x := .int .i64 g.hd) rfl).1
      have k2 := (blk_cell a3 2 (x := .int .i64 g.tk) rfl).1
      have k3 := (blk_cell a3 3 (x := .int .i64 g.ex) rfl).1
      go_wp2_with fail
      refine (HOK.out _).mono ?_
      rintro e w4 ⟨rfl, b4⟩
      obtain ⟨b41, b42, b43⟩ := HB3.out w4 b4
      have B4 : Hid (Below w3.heap.size w3 w4) := b4
      clear b4 a1 a2 a3 k0 k1 k2 k3
      have AX : Hid (w4.heap[w.heap.size]? = some (.cells #[.string ⟨#[]⟩, .int .i64 0, .int .i64 0, .int .i64 0] 24 (0, 0))) := b41
      have GX : Hid (Below w.heap.size w w4) := b42
      clear b41 b42 b43
      obtain ⟨zc0, zf0⟩ := blk_cell AX.out 0 (x := .string ⟨#[]⟩) rfl
      obtain ⟨zc1, zf1⟩ := blk_cell AX.out 1 (x := .int .i64 0) rfl
      obtain ⟨zc2, zf2⟩ := blk_cell AX.out 2 (x := .int .i64 0) rfl
      obtain ⟨zc3, zf3⟩ := blk_cell AX.out 3 (x := .int .i64 0) rfl
      have AF : ((((w4.setCell ⟨w.heap.size, 0, none⟩ (.string ⟨#[]⟩)).setCell ⟨w.heap.size, 1, none⟩ (.int .i64 0)).setCell ⟨w.heap.size, 2, none⟩ (.int .i64 0)).setCell ⟨w.heap.size, 3, none⟩ (.int .i64 0)).heap[w.heap.size]? = some (.cells #[.string ⟨#[]⟩, .int .i64 0, .int .i64 0, .int .i64 0] 24 (0, 0)) := (blk_set (blk_set (blk_set (blk_set AX.out 0 (.string ⟨#[]⟩)) 1 (.int .i64 0)) 2 (.int .i64 0)) 3 (.int .i64 0))
      have GF : Below w.heap.size w ((((w4.setCell ⟨w.heap.size, 0, none⟩ (.string ⟨#[]⟩)).setCell ⟨w.heap.size, 1, none⟩ (.int .i64 0)).setCell ⟨w.heap.size, 2, none⟩ (.int .i64 0)).setCell ⟨w.heap.size, 3, none⟩ (.int .i64 0)) := (Below.setCell (Below.setCell (Below.setCell (Below.setCell GX.out (p := ⟨w.heap.size, 0, none⟩) (Nat.le_refl _) (.string ⟨#[]⟩)) (p := ⟨w.heap.size, 1, none⟩) (Nat.le_refl _) (.int .i64 0)) (p := ⟨w.heap.size, 2, none⟩) (Nat.le_refl _) (.int .i64 0)) (p := ⟨w.heap.size, 3, none⟩) (Nat.le_refl _) (.int .i64 0))
      go_wp2_with fail
      generalize ((((w4.setCell ⟨w.heap.size, 0, none⟩ (.string ⟨#[]⟩)).setCell ⟨w.heap.size, 1, none⟩ (.int .i64 0)).setCell ⟨w.heap.size, 2, none⟩ (.int .i64 0)).setCell ⟨w.heap.size, 3, none⟩ (.int .i64 0)) = wf at AF GF ⊢
      have d0 := (blk_cell AF 0 (x := .string ⟨#[]⟩) rfl).1
      have d1 := (blk_cell AF 1 (x := .int .i64 0) rfl).1
      have d2 := (blk_cell AF 2 (x := .int .i64 0) rfl).1
      have d3 := (blk_cell AF 3 (x := .int .i64 0) rfl).1
      refine bodyPost_ret (v := .tuple #[.agg #[.string ⟨#[]⟩, .int .i64 0, .int .i64 0, .int .i64 0], .int .i64 3]) (by simp [results, Tryd.results12, go_sem, d0, d1, d2, d3]) rfl ⟨by rw [HE.out.1, HE.out.2]; rfl, GF⟩
    | true =>
      rw [ho] at HOK
      have HWR : Hid (∀ W, Below w.heap.size w W → Calls Tryd.prog 30 #[.agg #[.string g.nm, .int .i64 g.hd, .int .i64 g.tk, .int .i64 g.ex]] W fun e w' => e = .returned (.string (tx g)) ∧ Below W.heap.size W w') := fun W hW => writtenGrant_any g W (nmd_of (grB_parts ho).1).2 (grB_ok g ho).2 (HT.out W hW).1
      by_cases ht : tx g = t
      · have HE : Hid (rdG t = g ∧ rdC t = 0) := rd_some HLN.out (by rw [HR.out, HBB.out, HGG.out, ho, if_pos ⟨rfl, rfl, ht⟩])
        have hne : (t.toList == t.toList) = true := by simp
        rw [ht] at HWR
        clear HR ho ht
        go_enter Tryd.func12, Tryd.ntmps12
        go_upto_region 3 with fail
        generalize (w.alloc (.cells #[.string ⟨#[]⟩, .int .i64 0, .int .i64 0, .int .i64 0] 24)) = wb at HZ ⊢
        have HF := fields_any t wb HTS.out (HT.out wb (HZ.out wb (Below.refl _ _)).2.1).2
        go_wp2_with fail
        refine HF.mono ?_
        rintro e w1 ⟨v, rfl, r1, b1⟩
        have B1 : Hid (RowT w1 v (fldS t) ∧ Below wb.heap.size wb w1) := ⟨r1, b1⟩
        have HGI := grantIn_any v (fldS t) w1 r1 (fun s hs => Nat.le_trans (fld_small s hs) HTS.out)
        rw [HGG.out, HBB.out] at HGI
        unfold gV at HGI
        clear r1 b1 HF
        go_wp2_with fail
        refine HGI.mono ?_
        rintro e w2 ⟨rfl, b2⟩
        have B2 : Hid (Below wb.heap.size wb w2) := B1.out.2.trans (b2.mono B1.out.2.size)
        clear b2 HGI
        have HB3 : Hid (∀ W, Below (w2.alloc (.cells #[.string g.nm, .int .i64 g.hd, .int .i64 g.tk, .int .i64 g.ex] 24)).heap.size (w2.alloc (.cells #[.string g.nm, .int .i64 g.hd, .int .i64 g.tk, .int .i64 g.ex] 24)) W → W.heap[w.heap.size]? = some (.cells #[.string ⟨#[]⟩, .int .i64 0, .int .i64 0, .int .i64 0] 24 (0, 0)) ∧ Below w.heap.size w W ∧ W.heap[w2.heap.size]? = some (.cells #[.string g.nm, .int .i64 g.hd, .int .i64 g.tk, .int .i64 g.ex] 24 (0, 0))) := fun W hW => ⟨((hW.block _ (by have := (HZ.out _ B2.out).2.2; simp; omega)).trans ((bel1 w2 _).block _ (by have := (HZ.out _ B2.out).2.2; omega))).trans (HZ.out _ B2.out).1, ((HZ.out _ B2.out).2.1.trans ((bel1 w2 _).mono (HZ.out _ B2.out).2.1.size)).trans (hW.mono (by have := (HZ.out _ B2.out).2.2; simp; omega)), (hW.block _ (by simp)).trans (heap_alloc_new w2 _)⟩
        go_upto_region 4 with fail
        generalize (w2.alloc (.cells #[.string g.nm, .int .i64 g.hd, .int .i64 g.tk, .int .i64 g.ex] 24)) = w3 at HB3 ⊢
        obtain ⟨a1, a2, a3⟩ := HB3.out w3 (Below.refl _ _)
        have k0 := (blk_cell a3 0 (x := .string g.nm) rfl).1
        have k1 := (blk_cell a3 1 (x := .int .i64 g.hd) rfl).1
        have k2 := (blk_cell a3 2 (x := .int .i64 g.tk) rfl).1
        have k3 := (blk_cell a3 3 (x := .int .i64 g.ex) rfl).1
        go_wp2_with fail
        refine (HOK.out _).mono ?_
        rintro e w4 ⟨rfl, b4⟩
        obtain ⟨b41, b42, b43⟩ := HB3.out w4 b4
        have B4 : Hid (Below w3.heap.size w3 w4) := b4
        clear b4 a1 a2 a3 k0 k1 k2 k3
        have k0 := (blk_cell b43 0 (x := .string g.nm) rfl).1
        have k1 := (blk_cell b43 1 (x := .int .i64 g.hd) rfl).1
        have k2 := (blk_cell b43 2 (x := .int .i64 g.tk) rfl).1
        have k3 := (blk_cell b43 3 (x := .int .i64 g.ex) rfl).1
        have HW4 := HWR.out w4 b42
        clear b41 b42 b43
        go_wp2_with fail
        refine HW4.mono ?_
        rintro e w5 ⟨rfl, b5⟩
        obtain ⟨c51, c52, c53⟩ := HB3.out w5 (B4.out.trans (b5.mono B4.out.size))
        clear b5 k0 k1 k2 k3
        have AX : Hid (w5.heap[w.heap.size]? = some (.cells #[.string ⟨#[]⟩, .int .i64 0, .int .i64 0, .int .i64 0] 24 (0, 0))) := c51
        have GX : Hid (Below w.heap.size w w5) := c52
        have k0 := (blk_cell c53 0 (x := .string g.nm) rfl).1
        have k1 := (blk_cell c53 1 (x := .int .i64 g.hd) rfl).1
        have k2 := (blk_cell c53 2 (x := .int .i64 g.tk) rfl).1
        have k3 := (blk_cell c53 3 (x := .int .i64 g.ex) rfl).1
        clear c51 c52 c53
        obtain ⟨zc0, zf0⟩ := blk_cell AX.out 0 (x := .string ⟨#[]⟩) rfl
        obtain ⟨zc1, zf1⟩ := blk_cell AX.out 1 (x := .int .i64 0) rfl
        obtain ⟨zc2, zf2⟩ := blk_cell AX.out 2 (x := .int .i64 0) rfl
        obtain ⟨zc3, zf3⟩ := blk_cell AX.out 3 (x := .int .i64 0) rfl
        have AF : ((((w5.setCell ⟨w.heap.size, 0, none⟩ (.string g.nm)).setCell ⟨w.heap.size, 1, none⟩ (.int .i64 g.hd)).setCell ⟨w.heap.size, 2, none⟩ (.int .i64 g.tk)).setCell ⟨w.heap.size, 3, none⟩ (.int .i64 g.ex)).heap[w.heap.size]? = some (.cells #[.string g.nm, .int .i64 g.hd, .int .i64 g.tk, .int .i64 g.ex] 24 (0, 0)) := (blk_set (blk_set (blk_set (blk_set AX.out 0 (.string g.nm)) 1 (.int .i64 g.hd)) 2 (.int .i64 g.tk)) 3 (.int .i64 g.ex))
        have GF : Below w.heap.size w ((((w5.setCell ⟨w.heap.size, 0, none⟩ (.string g.nm)).setCell ⟨w.heap.size, 1, none⟩ (.int .i64 g.hd)).setCell ⟨w.heap.size, 2, none⟩ (.int .i64 g.tk)).setCell ⟨w.heap.size, 3, none⟩ (.int .i64 g.ex)) := (Below.setCell (Below.setCell (Below.setCell (Below.setCell GX.out (p := ⟨w.heap.size, 0, none⟩) (Nat.le_refl _) (.string g.nm)) (p := ⟨w.heap.size, 1, none⟩) (Nat.le_refl _) (.int .i64 g.hd)) (p := ⟨w.heap.size, 2, none⟩) (Nat.le_refl _) (.int .i64 g.tk)) (p := ⟨w.heap.size, 3, none⟩) (Nat.le_refl _) (.int .i64 g.ex))
        go_wp2_with fail
        generalize ((((w5.setCell ⟨w.heap.size, 0, none⟩ (.string g.nm)).setCell ⟨w.heap.size, 1, none⟩ (.int .i64 g.hd)).setCell ⟨w.heap.size, 2, none⟩ (.int .i64 g.tk)).setCell ⟨w.heap.size, 3, none⟩ (.int .i64 g.ex)) = wf at AF GF ⊢
        have d0 := (blk_cell AF 0 (x := .string g.nm) rfl).1
        have d1 := (blk_cell AF 1 (x := .int .i64 g.hd) rfl).1
        have d2 := (blk_cell AF 2 (x := .int .i64 g.tk) rfl).1
        have d3 := (blk_cell AF 3 (x := .int .i64 g.ex) rfl).1
        refine bodyPost_ret (v := .tuple #[.agg #[.string g.nm, .int .i64 g.hd, .int .i64 g.tk, .int .i64 g.ex], .int .i64 0]) (by simp [results, Tryd.results12, go_sem, d0, d1, d2, d3]) rfl ⟨by rw [HE.out.1, HE.out.2]; rfl, GF⟩
      · have HE : Hid (rdG t = zG ∧ rdC t = 3) := rd_none HLN.out (by rw [HR.out, HGG.out, if_neg (fun h => ht h.2.2)])
        have hne : ((tx g).toList == t.toList) = false := by
          rw [beq_eq_false_iff_ne]
          intro e
          apply ht
          rw [ByteArray.toList_eq, ByteArray.toList_eq] at e
          exact ByteArray.ext (Array.toList_inj.1 e)
        clear HR ho ht
        generalize tx g = tt at HWR hne
        go_enter Tryd.func12, Tryd.ntmps12
        go_upto_region 3 with fail
        generalize (w.alloc (.cells #[.string ⟨#[]⟩, .int .i64 0, .int .i64 0, .int .i64 0] 24)) = wb at HZ ⊢
        have HF := fields_any t wb HTS.out (HT.out wb (HZ.out wb (Below.refl _ _)).2.1).2
        go_wp2_with fail
        refine HF.mono ?_
        rintro e w1 ⟨v, rfl, r1, b1⟩
        have B1 : Hid (RowT w1 v (fldS t) ∧ Below wb.heap.size wb w1) := ⟨r1, b1⟩
        have HGI := grantIn_any v (fldS t) w1 r1 (fun s hs => Nat.le_trans (fld_small s hs) HTS.out)
        rw [HGG.out, HBB.out] at HGI
        unfold gV at HGI
        clear r1 b1 HF
        go_wp2_with fail
        refine HGI.mono ?_
        rintro e w2 ⟨rfl, b2⟩
        have B2 : Hid (Below wb.heap.size wb w2) := B1.out.2.trans (b2.mono B1.out.2.size)
        clear b2 HGI
        have HB3 : Hid (∀ W, Below (w2.alloc (.cells #[.string g.nm, .int .i64 g.hd, .int .i64 g.tk, .int .i64 g.ex] 24)).heap.size (w2.alloc (.cells #[.string g.nm, .int .i64 g.hd, .int .i64 g.tk, .int .i64 g.ex] 24)) W → W.heap[w.heap.size]? = some (.cells #[.string ⟨#[]⟩, .int .i64 0, .int .i64 0, .int .i64 0] 24 (0, 0)) ∧ Below w.heap.size w W ∧ W.heap[w2.heap.size]? = some (.cells #[.string g.nm, .int .i64 g.hd, .int .i64 g.tk, .int .i64 g.ex] 24 (0, 0))) := fun W hW => ⟨((hW.block _ (by have := (HZ.out _ B2.out).2.2; simp; omega)).trans ((bel1 w2 _).block _ (by have := (HZ.out _ B2.out).2.2; omega))).trans (HZ.out _ B2.out).1, ((HZ.out _ B2.out).2.1.trans ((bel1 w2 _).mono (HZ.out _ B2.out).2.1.size)).trans (hW.mono (by have := (HZ.out _ B2.out).2.2; simp; omega)), (hW.block _ (by simp)).trans (heap_alloc_new w2 _)⟩
        go_upto_region 4 with fail
        generalize (w2.alloc (.cells #[.string g.nm, .int .i64 g.hd, .int .i64 g.tk, .int .i64 g.ex] 24)) = w3 at HB3 ⊢
        obtain ⟨a1, a2, a3⟩ := HB3.out w3 (Below.refl _ _)
        have k0 := (blk_cell a3 0 (x := .string g.nm) rfl).1
        have k1 := (blk_cell a3 1 (x := .int .i64 g.hd) rfl).1
        have k2 := (blk_cell a3 2 (x := .int .i64 g.tk) rfl).1
        have k3 := (blk_cell a3 3 (x := .int .i64 g.ex) rfl).1
        go_wp2_with fail
        refine (HOK.out _).mono ?_
        rintro e w4 ⟨rfl, b4⟩
        obtain ⟨b41, b42, b43⟩ := HB3.out w4 b4
        have B4 : Hid (Below w3.heap.size w3 w4) := b4
        clear b4 a1 a2 a3 k0 k1 k2 k3
        have k0 := (blk_cell b43 0 (x := .string g.nm) rfl).1
        have k1 := (blk_cell b43 1 (x := .int .i64 g.hd) rfl).1
        have k2 := (blk_cell b43 2 (x := .int .i64 g.tk) rfl).1
        have k3 := (blk_cell b43 3 (x := .int .i64 g.ex) rfl).1
        have HW4 := HWR.out w4 b42
        clear b41 b42 b43
        go_wp2_with fail
        refine HW4.mono ?_
        rintro e w5 ⟨rfl, b5⟩
        obtain ⟨c51, c52, c53⟩ := HB3.out w5 (B4.out.trans (b5.mono B4.out.size))
        clear b5 k0 k1 k2 k3
        have AX : Hid (w5.heap[w.heap.size]? = some (.cells #[.string ⟨#[]⟩, .int .i64 0, .int .i64 0, .int .i64 0] 24 (0, 0))) := c51
        have GX : Hid (Below w.heap.size w w5) := c52
        clear c51 c52 c53
        obtain ⟨zc0, zf0⟩ := blk_cell AX.out 0 (x := .string ⟨#[]⟩) rfl
        obtain ⟨zc1, zf1⟩ := blk_cell AX.out 1 (x := .int .i64 0) rfl
        obtain ⟨zc2, zf2⟩ := blk_cell AX.out 2 (x := .int .i64 0) rfl
        obtain ⟨zc3, zf3⟩ := blk_cell AX.out 3 (x := .int .i64 0) rfl
        have AF : ((((w5.setCell ⟨w.heap.size, 0, none⟩ (.string ⟨#[]⟩)).setCell ⟨w.heap.size, 1, none⟩ (.int .i64 0)).setCell ⟨w.heap.size, 2, none⟩ (.int .i64 0)).setCell ⟨w.heap.size, 3, none⟩ (.int .i64 0)).heap[w.heap.size]? = some (.cells #[.string ⟨#[]⟩, .int .i64 0, .int .i64 0, .int .i64 0] 24 (0, 0)) := (blk_set (blk_set (blk_set (blk_set AX.out 0 (.string ⟨#[]⟩)) 1 (.int .i64 0)) 2 (.int .i64 0)) 3 (.int .i64 0))
        have GF : Below w.heap.size w ((((w5.setCell ⟨w.heap.size, 0, none⟩ (.string ⟨#[]⟩)).setCell ⟨w.heap.size, 1, none⟩ (.int .i64 0)).setCell ⟨w.heap.size, 2, none⟩ (.int .i64 0)).setCell ⟨w.heap.size, 3, none⟩ (.int .i64 0)) := (Below.setCell (Below.setCell (Below.setCell (Below.setCell GX.out (p := ⟨w.heap.size, 0, none⟩) (Nat.le_refl _) (.string ⟨#[]⟩)) (p := ⟨w.heap.size, 1, none⟩) (Nat.le_refl _) (.int .i64 0)) (p := ⟨w.heap.size, 2, none⟩) (Nat.le_refl _) (.int .i64 0)) (p := ⟨w.heap.size, 3, none⟩) (Nat.le_refl _) (.int .i64 0))
        go_wp2_with fail
        generalize ((((w5.setCell ⟨w.heap.size, 0, none⟩ (.string ⟨#[]⟩)).setCell ⟨w.heap.size, 1, none⟩ (.int .i64 0)).setCell ⟨w.heap.size, 2, none⟩ (.int .i64 0)).setCell ⟨w.heap.size, 3, none⟩ (.int .i64 0)) = wf at AF GF ⊢
        have d0 := (blk_cell AF 0 (x := .string ⟨#[]⟩) rfl).1
        have d1 := (blk_cell AF 1 (x := .int .i64 0) rfl).1
        have d2 := (blk_cell AF 2 (x := .int .i64 0) rfl).1
        have d3 := (blk_cell AF 3 (x := .int .i64 0) rfl).1
        refine bodyPost_ret (v := .tuple #[.agg #[.string ⟨#[]⟩, .int .i64 0, .int .i64 0, .int .i64 0], .int .i64 3]) (by simp [results, Tryd.results12, go_sem, d0, d1, d2, d3]) rfl ⟨by rw [HE.out.1, HE.out.2]; rfl, GF⟩
end Go.Proofs.YtimmeclclilpdaaDoor.Gr12
