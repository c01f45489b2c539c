/- The act of a line's words, of the specification: the operations, 3 words. -/
import Derived.Test.YtlhokhccjejcoaaRle
namespace Go.Proofs.Ytlhokhccjejcoaa.Rl16
open Go.RowKit Go.Lib Go.Proofs.Ytlhokhccjejcoaa.Ap Go.Proofs.Ytlhokhccjejcoaa.Tx
open Go.Proofs.Ytlhokhccjejcoaa.Gr12 (nV nB l00Number_any numberIn_any)
open Go.Proofs.Ytlhokhccjejcoaa.Stw
theorem bel_drewN (w : World) : ∀ n, Below w.heap.size w (w.drewN n)
  | 0 => Below.refl _ _
  | n + 1 => (bel_drewN w n).drew
set_option maxRecDepth 100000 in
set_option maxHeartbeats 6400000 in
theorem l16_ops3 (v : Value) (a b c : ByteArray) (ts : List ByteArray) (w : World) (h : RowT w v ts) (hne : ts ≠ []) (hb : b.size ≤ 70000) (h0 : ts[0]? = some a) (h1 : ts[1]? = some b) (h2 : ts[2]? = some c) (hl : ts.length = 3) :
    Calls Try.prog 8 #[v] w fun e w' => RdP [a, b, c] e ∧ Below w.heap.size w w' := by
  obtain ⟨k, o, cp, rfl, hc, hcell⟩ := row_at h hne
  have HC : Hid (∀ W, Below w.heap.size w W → ∀ i x, ts[i]? = some x → W.cell? ⟨k, o + i, none⟩ = some (.string x)) := fun W hW i x hi => (hW.cell (p := ⟨k, o + i, none⟩) (World.block_lt_of_cell? w ⟨k, o + i, none⟩ (hcell i x hi))).trans (hcell i x hi)
  have H1 : Hid (((w.alloc (.cells #[.int .i64 0, .int .i64 0, .int .i64 0, .int .i64 0, .int .i64 0, .int .i64 0, .string ⟨#[]⟩, .int .i64 0, .int .i64 0, .int .i64 0, .int .i64 0, .int .i64 0, .int .i64 0, .int .i64 0, .string ⟨#[]⟩, .int .i64 0, .int .i64 0, .int .i64 0, .int .i64 0, .string ⟨#[]⟩, .string ⟨#[]⟩, .string ⟨#[]⟩, .int .i64 0, .int .i64 0, .int .i64 0, .int .i64 0] 31)).alloc (.cells #[.string ⟨#[]⟩, .string ⟨#[97, 99, 113, 117, 105, 114, 101]⟩, .string ⟨#[114, 101, 108, 101, 97, 115, 101]⟩, .string ⟨#[114, 101, 110, 101, 119]⟩, .string ⟨#[113, 117, 101, 114, 121]⟩] 9)).heap[w.heap.size]? = some (.cells #[.int .i64 0, .int .i64 0, .int .i64 0, .int .i64 0, .int .i64 0, .int .i64 0, .string ⟨#[]⟩, .int .i64 0, .int .i64 0, .int .i64 0, .int .i64 0, .int .i64 0, .int .i64 0, .int .i64 0, .string ⟨#[]⟩, .int .i64 0, .int .i64 0, .int .i64 0, .int .i64 0, .string ⟨#[]⟩, .string ⟨#[]⟩, .string ⟨#[]⟩, .int .i64 0, .int .i64 0, .int .i64 0, .int .i64 0] 31 (0, 0)) ∧ ((w.alloc (.cells #[.int .i64 0, .int .i64 0, .int .i64 0, .int .i64 0, .int .i64 0, .int .i64 0, .string ⟨#[]⟩, .int .i64 0, .int .i64 0, .int .i64 0, .int .i64 0, .int .i64 0, .int .i64 0, .int .i64 0, .string ⟨#[]⟩, .int .i64 0, .int .i64 0, .int .i64 0, .int .i64 0, .string ⟨#[]⟩, .string ⟨#[]⟩, .string ⟨#[]⟩, .int .i64 0, .int .i64 0, .int .i64 0, .int .i64 0] 31)).alloc (.cells #[.string ⟨#[]⟩, .string ⟨#[97, 99, 113, 117, 105, 114, 101]⟩, .string ⟨#[114, 101, 108, 101, 97, 115, 101]⟩, .string ⟨#[114, 101, 110, 101, 119]⟩, .string ⟨#[113, 117, 101, 114, 121]⟩] 9)).heap[w.heap.size + 1]? = some (.cells #[.string ⟨#[]⟩, .string ⟨#[97, 99, 113, 117, 105, 114, 101]⟩, .string ⟨#[114, 101, 108, 101, 97, 115, 101]⟩, .string ⟨#[114, 101, 110, 101, 119]⟩, .string ⟨#[113, 117, 101, 114, 121]⟩] 9 (0, 0)) ∧ Below w.heap.size w ((w.alloc (.cells #[.int .i64 0, .int .i64 0, .int .i64 0, .int .i64 0, .int .i64 0, .int .i64 0, .string ⟨#[]⟩, .int .i64 0, .int .i64 0, .int .i64 0, .int .i64 0, .int .i64 0, .int .i64 0, .int .i64 0, .string ⟨#[]⟩, .int .i64 0, .int .i64 0, .int .i64 0, .int .i64 0, .string ⟨#[]⟩, .string ⟨#[]⟩, .string ⟨#[]⟩, .int .i64 0, .int .i64 0, .int .i64 0, .int .i64 0] 31)).alloc (.cells #[.string ⟨#[]⟩, .string ⟨#[97, 99, 113, 117, 105, 114, 101]⟩, .string ⟨#[114, 101, 108, 101, 97, 115, 101]⟩, .string ⟨#[114, 101, 110, 101, 119]⟩, .string ⟨#[113, 117, 101, 114, 121]⟩] 9))) :=
    ⟨((bel_new _ _).block _ (by simp)).trans (blk_new _ _ _), (by rw [show w.heap.size + 1 = (w.alloc (.cells #[.int .i64 0, .int .i64 0, .int .i64 0, .int .i64 0, .int .i64 0, .int .i64 0, .string ⟨#[]⟩, .int .i64 0, .int .i64 0, .int .i64 0, .int .i64 0, .int .i64 0, .int .i64 0, .int .i64 0, .string ⟨#[]⟩, .int .i64 0, .int .i64 0, .int .i64 0, .int .i64 0, .string ⟨#[]⟩, .string ⟨#[]⟩, .string ⟨#[]⟩, .int .i64 0, .int .i64 0, .int .i64 0, .int .i64 0] 31)).heap.size by simp]; exact blk_new _ _ _), bel2 _ _ _⟩
  clear h hcell
  rw [hl] at *
  have HN2 : Hid (∀ W, Calls Try.prog 15 #[.string b] W fun e w' => e = .returned (.tuple #[.int .i64 (nV b), .bool (nB b)]) ∧ w' = W) := fun W => l00Number_any b W hb
  go_enter Try.func8, Try.ntmps8
  go_upto_region 2 with fail
  generalize ((w.alloc (.cells #[.int .i64 0, .int .i64 0, .int .i64 0, .int .i64 0, .int .i64 0, .int .i64 0, .string ⟨#[]⟩, .int .i64 0, .int .i64 0, .int .i64 0, .int .i64 0, .int .i64 0, .int .i64 0, .int .i64 0, .string ⟨#[]⟩, .int .i64 0, .int .i64 0, .int .i64 0, .int .i64 0, .string ⟨#[]⟩, .string ⟨#[]⟩, .string ⟨#[]⟩, .int .i64 0, .int .i64 0, .int .i64 0, .int .i64 0] 31)).alloc (.cells #[.string ⟨#[]⟩, .string ⟨#[97, 99, 113, 117, 105, 114, 101]⟩, .string ⟨#[114, 101, 108, 101, 97, 115, 101]⟩, .string ⟨#[114, 101, 110, 101, 119]⟩, .string ⟨#[113, 117, 101, 114, 121]⟩] 9)) = w1 at H1 ⊢
  have c0 : w1.cell? ⟨k, o, none⟩ = some (.string a) := HC.out w1 H1.out.2.2 0 a h0
  have HCL : Hid (∀ W, Below w1.heap.size w1 W → W.cell? ⟨k, o, none⟩ = some (.string a) ∧ W.cell? ⟨k, o + 1, none⟩ = some (.string b) ∧ W.cell? ⟨k, o + 2, none⟩ = some (.string c) ∧ W.heap[w.heap.size]? = some (.cells #[.int .i64 0, .int .i64 0, .int .i64 0, .int .i64 0, .int .i64 0, .int .i64 0, .string ⟨#[]⟩, .int .i64 0, .int .i64 0, .int .i64 0, .int .i64 0, .int .i64 0, .int .i64 0, .int .i64 0, .string ⟨#[]⟩, .int .i64 0, .int .i64 0, .int .i64 0, .int .i64 0, .string ⟨#[]⟩, .string ⟨#[]⟩, .string ⟨#[]⟩, .int .i64 0, .int .i64 0, .int .i64 0, .int .i64 0] 31 (0, 0)) ∧ W.heap[w.heap.size + 1]? = some (.cells #[.string ⟨#[]⟩, .string ⟨#[97, 99, 113, 117, 105, 114, 101]⟩, .string ⟨#[114, 101, 108, 101, 97, 115, 101]⟩, .string ⟨#[114, 101, 110, 101, 119]⟩, .string ⟨#[113, 117, 101, 114, 121]⟩] 9 (0, 0)) ∧ Below w.heap.size w W) := fun W hW => by
    have hB := H1.out.2.2.trans (hW.mono H1.out.2.2.size)
    exact ⟨HC.out W hB 0 a h0, HC.out W hB 1 b h1, HC.out W hB 2 c h2, (hW.block _ (Array.getElem?_eq_some_iff.1 H1.out.1).1).trans H1.out.1, (hW.block _ (Array.getElem?_eq_some_iff.1 H1.out.2.1).1).trans H1.out.2.1, hB⟩
  clear H1 HC h0 h1 h2
  cases hA2 : (a.toList == [116, 105, 109, 101, 111, 117, 116])
  all_goals
    go_wp2_with fail
    clear c0 hA2
    go_loopw [7] (fun i wr => ∃ q : Nat, 1 ≤ q ∧ q ≤ 5 ∧ i = .int .i64 q ∧ Below w1.heap.size w1 wr ∧ Hid (∀ j, 1 ≤ j → j < q → a ≠ opW j)) (fun i _ => 5 - (intOf i).toNat)
    case atStart => exact ⟨1, by omega, by omega, rfl, Below.refl _ _, fun j h1 h2 => by omega⟩
    case round =>
      obtain ⟨q, hq1, hq5, rfl, hbr, HN⟩ := hrel
      by_cases hlt : q < 5
      · obtain ⟨e0, e1, e2, e3, e4, _⟩ := HCL.out wr hbr
        have hq4 : q = 1 ∨ q = 2 ∨ q = 3 ∨ q = 4 := by omega
        clear hq5 hlt hq1
        rcases hq4 with rfl | rfl | rfl | rfl
        · have o1 := (blk_cell e4 1 (x := .string ⟨#[97, 99, 113, 117, 105, 114, 101]⟩) rfl).1
          by_cases he : a = wa1
          · have HO : Hid (opOf a = 1) := by rw [he]; exact opOf_at (k := 1) (by omega) (by omega)
            have f1 : (a.toList == [97, 99, 113, 117, 105, 114, 101]) = true := by rw [ByteArray.toList_eq, he]; rfl
            have f2 : ([97, 99, 113, 117, 105, 114, 101] == a.toList) = true := by rw [ByteArray.toList_eq, he]; rfl
            have f3 : ([97, 99, 113, 117, 105, 114, 101] != a.toList) = false := by rw [ByteArray.toList_eq, he]; rfl
            clear he HN
            go_upto_region 9 with fail
            go_quiet (fail)
            have hbq : Below w1.heap.size w1 (wr.drewN nq) := hbr.trans ((bel_drewN wr nq).mono hbr.size)
            generalize wr.drewN nq = wq at hbq ⊢
            clear e0 e1 e2 e3 e4 o1 f1 f2 f3
            obtain ⟨e0, e1, e2, e3, _, eB⟩ := HCL.out wq hbq
            have HZ : Hid (wq.heap[w.heap.size]? = some (.cells #[.int .i64 0, .int .i64 0, .int .i64 0, .int .i64 0, .int .i64 0, .int .i64 0, .string ⟨#[]⟩, .int .i64 0, .int .i64 0, .int .i64 0, .int .i64 0, .int .i64 0, .int .i64 0, .int .i64 0, .string ⟨#[]⟩, .int .i64 0, .int .i64 0, .int .i64 0, .int .i64 0, .string ⟨#[]⟩, .string ⟨#[]⟩, .string ⟨#[]⟩, .int .i64 0, .int .i64 0, .int .i64 0, .int .i64 0] 31 (0, 0)) ∧ w.heap.size < wq.heap.size ∧ w.heap.size ≠ wq.heap.size ∧ Below w.heap.size w wq) := ⟨e3, (Array.getElem?_eq_some_iff.1 e3).1, Nat.ne_of_lt (Array.getElem?_eq_some_iff.1 e3).1, eB⟩
            clear e3 eB
            obtain ⟨hv1, hv2⟩ := nV_lt b
            go_wp2_with (first | (go_at_call 15; (first | (with_reducible refine (HN2.out _).mono ?_)); rintro e w2 ⟨rfl, hw⟩; rw [hw]; clear hw) | (refine wpList_box rfl 31 (.tmp 10) (.tmp 72) rfl (wq.heap.size) _ #[.int .i64 2, .int .i64 (10 + (if 1000 < nV b then 1000 else nV b)), .int .i64 0, .int .i64 0, .int .i64 1, .int .i64 0, .string c, .int .i64 0, .int .i64 0, .int .i64 0, .int .i64 0, .int .i64 0, .int .i64 0, .int .i64 0, .string ⟨#[]⟩, .int .i64 0, .int .i64 0, .int .i64 0, .int .i64 0, .string ⟨#[]⟩, .string ⟨#[]⟩, .string ⟨#[]⟩, .int .i64 0, .int .i64 0, .int .i64 0, .int .i64 0] 31 ?_ ?_ (blk_new _ _ _) ?_ ?_ ?_ ?_; go_must ((iterate 3 (first | rfl | kernel_rfl)); (iterate 2 (first | kernel_rfl | rfl)); intro wB Bb Bf Bg; simp only [Act.put])) | (refine wpList_ldbox rfl 31 (.tmp 10) rfl (wq.heap.size) #[.int .i64 2, .int .i64 (10 + (if 1000 < nV b then 1000 else nV b)), .int .i64 0, .int .i64 0, .int .i64 1, .int .i64 0, .string c, .int .i64 0, .int .i64 0, .int .i64 0, .int .i64 0, .int .i64 0, .int .i64 0, .int .i64 0, .string ⟨#[]⟩, .int .i64 0, .int .i64 0, .int .i64 0, .int .i64 0, .string ⟨#[]⟩, .string ⟨#[]⟩, .string ⟨#[]⟩, .int .i64 0, .int .i64 0, .int .i64 0, .int .i64 0] 31 ?_ Bb ?_ ?_ ?_; go_must ((first | rfl | kernel_rfl); (iterate 2 kernel_rfl); simp only [Act.put])) | (refine wpList_box rfl 31 (.tmp 2) (.tmp 89) rfl (w.heap.size) _ #[.int .i64 2, .int .i64 (10 + (if 1000 < nV b then 1000 else nV b)), .int .i64 0, .int .i64 0, .int .i64 1, .int .i64 0, .string c, .int .i64 0, .int .i64 0, .int .i64 0, .int .i64 0, .int .i64 0, .int .i64 0, .int .i64 0, .string ⟨#[]⟩, .int .i64 0, .int .i64 0, .int .i64 0, .int .i64 0, .string ⟨#[]⟩, .string ⟨#[]⟩, .string ⟨#[]⟩, .int .i64 0, .int .i64 0, .int .i64 0, .int .i64 0] 31 ?_ ?_ ((Bf _ HZ.out.2.2.1).trans (((bel_new wq _).block _ HZ.out.2.1).trans HZ.out.1)) ?_ ?_ ?_ ?_; go_must ((iterate 3 (first | rfl | kernel_rfl)); (iterate 2 (first | kernel_rfl | rfl)); intro wA Ab Af Ag; simp only [Act.put])))
            all_goals
             have G2 := Ag (Bg (HZ.out.2.2.2.trans ((bel_new wq _).mono HZ.out.2.2.2.size)) HZ.out.2.2.2.size) (Nat.le_refl _)
             refine res_box2 Try.results8 Ab rfl rfl (by kernel_rfl) (by kernel_rfl) rfl ?_
             exact ⟨rdP (by cases h : nB b <;> simp [rlA, HO.out, h]) (fun U hU => by
               have e : rlA [a, b, c] = if opOf a ≠ 0 ∧ nB b = true then some (waC 2 (mnI (nV b)) (opOf a) 0 c 0 0) else none := rfl
               rw [e, HO.out] at hU
               split at hU
               · cases hU; rfl
               · cases hU), G2⟩
          · have f1 : (a.toList == [97, 99, 113, 117, 105, 114, 101]) = false := beq_eq_false_iff_ne.2 fun e => he (ByteArray.ext (Array.toList_inj.1 (by rw [ByteArray.toList_eq] at e; exact e)))
            have f2 : ([97, 99, 113, 117, 105, 114, 101] == a.toList) = false := beq_eq_false_iff_ne.2 fun e => beq_eq_false_iff_ne.1 f1 e.symm
            have f3 : ([97, 99, 113, 117, 105, 114, 101] != a.toList) = true := by simp only [bne, f2]; rfl
            have HN3 : Hid (∀ j, 1 ≤ j → j < 1 + 1 → a ≠ opW j) := fun j h1 h2 => by
              by_cases e : j = 1
              · subst e; exact he
              · exact HN.out j h1 (by omega)
            clear he HN
            go_upto_region 9 with fail
            go_quiet (fail)
            have hbq : Below w1.heap.size w1 (wr.drewN nq) := hbr.trans ((bel_drewN wr nq).mono hbr.size)
            generalize wr.drewN nq = wq at hbq ⊢
            go_wp2_with fail
            exact ⟨⟨1 + 1, by omega, by omega, by go_num, hbq, HN3.out⟩, by simp [intOf]⟩
        · have o1 := (blk_cell e4 2 (x := .string ⟨#[114, 101, 108, 101, 97, 115, 101]⟩) rfl).1
          by_cases he : a = wa2
          · have HO : Hid (opOf a = 2) := by rw [he]; exact opOf_at (k := 2) (by omega) (by omega)
            have f1 : (a.toList == [114, 101, 108, 101, 97, 115, 101]) = true := by rw [ByteArray.toList_eq, he]; rfl
            have f2 : ([114, 101, 108, 101, 97, 115, 101] == a.toList) = true := by rw [ByteArray.toList_eq, he]; rfl
            have f3 : ([114, 101, 108, 101, 97, 115, 101] != a.toList) = false := by rw [ByteArray.toList_eq, he]; rfl
            clear he HN
            go_upto_region 9 with fail
            go_quiet (fail)
            have hbq : Below w1.heap.size w1 (wr.drewN nq) := hbr.trans ((bel_drewN wr nq).mono hbr.size)
            generalize wr.drewN nq = wq at hbq ⊢
            clear e0 e1 e2 e3 e4 o1 f1 f2 f3
            obtain ⟨e0, e1, e2, e3, _, eB⟩ := HCL.out wq hbq
            have HZ : Hid (wq.heap[w.heap.size]? = some (.cells #[.int .i64 0, .int .i64 0, .int .i64 0, .int .i64 0, .int .i64 0, .int .i64 0, .string ⟨#[]⟩, .int .i64 0, .int .i64 0, .int .i64 0, .int .i64 0, .int .i64 0, .int .i64 0, .int .i64 0, .string ⟨#[]⟩, .int .i64 0, .int .i64 0, .int .i64 0, .int .i64 0, .string ⟨#[]⟩, .string ⟨#[]⟩, .string ⟨#[]⟩, .int .i64 0, .int .i64 0, .int .i64 0, .int .i64 0] 31 (0, 0)) ∧ w.heap.size < wq.heap.size ∧ w.heap.size ≠ wq.heap.size ∧ Below w.heap.size w wq) := ⟨e3, (Array.getElem?_eq_some_iff.1 e3).1, Nat.ne_of_lt (Array.getElem?_eq_some_iff.1 e3).1, eB⟩
            clear e3 eB
            obtain ⟨hv1, hv2⟩ := nV_lt b
            go_wp2_with (first | (go_at_call 15; (first | (with_reducible refine (HN2.out _).mono ?_)); rintro e w2 ⟨rfl, hw⟩; rw [hw]; clear hw) | (refine wpList_box rfl 31 (.tmp 10) (.tmp 72) rfl (wq.heap.size) _ #[.int .i64 2, .int .i64 (10 + (if 1000 < nV b then 1000 else nV b)), .int .i64 0, .int .i64 0, .int .i64 2, .int .i64 0, .string c, .int .i64 0, .int .i64 0, .int .i64 0, .int .i64 0, .int .i64 0, .int .i64 0, .int .i64 0, .string ⟨#[]⟩, .int .i64 0, .int .i64 0, .int .i64 0, .int .i64 0, .string ⟨#[]⟩, .string ⟨#[]⟩, .string ⟨#[]⟩, .int .i64 0, .int .i64 0, .int .i64 0, .int .i64 0] 31 ?_ ?_ (blk_new _ _ _) ?_ ?_ ?_ ?_; go_must ((iterate 3 (first | rfl | kernel_rfl)); (iterate 2 (first | kernel_rfl | rfl)); intro wB Bb Bf Bg; simp only [Act.put])) | (refine wpList_ldbox rfl 31 (.tmp 10) rfl (wq.heap.size) #[.int .i64 2, .int .i64 (10 + (if 1000 < nV b then 1000 else nV b)), .int .i64 0, .int .i64 0, .int .i64 2, .int .i64 0, .string c, .int .i64 0, .int .i64 0, .int .i64 0, .int .i64 0, .int .i64 0, .int .i64 0, .int .i64 0, .string ⟨#[]⟩, .int .i64 0, .int .i64 0, .int .i64 0, .int .i64 0, .string ⟨#[]⟩, .string ⟨#[]⟩, .string ⟨#[]⟩, .int .i64 0, .int .i64 0, .int .i64 0, .int .i64 0] 31 ?_ Bb ?_ ?_ ?_; go_must ((first | rfl | kernel_rfl); (iterate 2 kernel_rfl); simp only [Act.put])) | (refine wpList_box rfl 31 (.tmp 2) (.tmp 89) rfl (w.heap.size) _ #[.int .i64 2, .int .i64 (10 + (if 1000 < nV b then 1000 else nV b)), .int .i64 0, .int .i64 0, .int .i64 2, .int .i64 0, .string c, .int .i64 0, .int .i64 0, .int .i64 0, .int .i64 0, .int .i64 0, .int .i64 0, .int .i64 0, .string ⟨#[]⟩, .int .i64 0, .int .i64 0, .int .i64 0, .int .i64 0, .string ⟨#[]⟩, .string ⟨#[]⟩, .string ⟨#[]⟩, .int .i64 0, .int .i64 0, .int .i64 0, .int .i64 0] 31 ?_ ?_ ((Bf _ HZ.out.2.2.1).trans (((bel_new wq _).block _ HZ.out.2.1).trans HZ.out.1)) ?_ ?_ ?_ ?_; go_must ((iterate 3 (first | rfl | kernel_rfl)); (iterate 2 (first | kernel_rfl | rfl)); intro wA Ab Af Ag; simp only [Act.put])))
            all_goals
             have G2 := Ag (Bg (HZ.out.2.2.2.trans ((bel_new wq _).mono HZ.out.2.2.2.size)) HZ.out.2.2.2.size) (Nat.le_refl _)
             refine res_box2 Try.results8 Ab rfl rfl (by kernel_rfl) (by kernel_rfl) rfl ?_
             exact ⟨rdP (by cases h : nB b <;> simp [rlA, HO.out, h]) (fun U hU => by
               have e : rlA [a, b, c] = if opOf a ≠ 0 ∧ nB b = true then some (waC 2 (mnI (nV b)) (opOf a) 0 c 0 0) else none := rfl
               rw [e, HO.out] at hU
               split at hU
               · cases hU; rfl
               · cases hU), G2⟩
          · have f1 : (a.toList == [114, 101, 108, 101, 97, 115, 101]) = false := beq_eq_false_iff_ne.2 fun e => he (ByteArray.ext (Array.toList_inj.1 (by rw [ByteArray.toList_eq] at e; exact e)))
            have f2 : ([114, 101, 108, 101, 97, 115, 101] == a.toList) = false := beq_eq_false_iff_ne.2 fun e => beq_eq_false_iff_ne.1 f1 e.symm
            have f3 : ([114, 101, 108, 101, 97, 115, 101] != a.toList) = true := by simp only [bne, f2]; rfl
            have HN3 : Hid (∀ j, 1 ≤ j → j < 2 + 1 → a ≠ opW j) := fun j h1 h2 => by
              by_cases e : j = 2
              · subst e; exact he
              · exact HN.out j h1 (by omega)
            clear he HN
            go_upto_region 9 with fail
            go_quiet (fail)
            have hbq : Below w1.heap.size w1 (wr.drewN nq) := hbr.trans ((bel_drewN wr nq).mono hbr.size)
            generalize wr.drewN nq = wq at hbq ⊢
            go_wp2_with fail
            exact ⟨⟨2 + 1, by omega, by omega, by go_num, hbq, HN3.out⟩, by simp [intOf]⟩
        · have o1 := (blk_cell e4 3 (x := .string ⟨#[114, 101, 110, 101, 119]⟩) rfl).1
          by_cases he : a = wa3
          · have HO : Hid (opOf a = 3) := by rw [he]; exact opOf_at (k := 3) (by omega) (by omega)
            have f1 : (a.toList == [114, 101, 110, 101, 119]) = true := by rw [ByteArray.toList_eq, he]; rfl
            have f2 : ([114, 101, 110, 101, 119] == a.toList) = true := by rw [ByteArray.toList_eq, he]; rfl
            have f3 : ([114, 101, 110, 101, 119] != a.toList) = false := by rw [ByteArray.toList_eq, he]; rfl
            clear he HN
            go_upto_region 9 with fail
            go_quiet (fail)
            have hbq : Below w1.heap.size w1 (wr.drewN nq) := hbr.trans ((bel_drewN wr nq).mono hbr.size)
            generalize wr.drewN nq = wq at hbq ⊢
            clear e0 e1 e2 e3 e4 o1 f1 f2 f3
            obtain ⟨e0, e1, e2, e3, _, eB⟩ := HCL.out wq hbq
            have HZ : Hid (wq.heap[w.heap.size]? = some (.cells #[.int .i64 0, .int .i64 0, .int .i64 0, .int .i64 0, .int .i64 0, .int .i64 0, .string ⟨#[]⟩, .int .i64 0, .int .i64 0, .int .i64 0, .int .i64 0, .int .i64 0, .int .i64 0, .int .i64 0, .string ⟨#[]⟩, .int .i64 0, .int .i64 0, .int .i64 0, .int .i64 0, .string ⟨#[]⟩, .string ⟨#[]⟩, .string ⟨#[]⟩, .int .i64 0, .int .i64 0, .int .i64 0, .int .i64 0] 31 (0, 0)) ∧ w.heap.size < wq.heap.size ∧ w.heap.size ≠ wq.heap.size ∧ Below w.heap.size w wq) := ⟨e3, (Array.getElem?_eq_some_iff.1 e3).1, Nat.ne_of_lt (Array.getElem?_eq_some_iff.1 e3).1, eB⟩
            clear e3 eB
            obtain ⟨hv1, hv2⟩ := nV_lt b
            go_wp2_with (first | (go_at_call 15; (first | (with_reducible refine (HN2.out _).mono ?_)); rintro e w2 ⟨rfl, hw⟩; rw [hw]; clear hw) | (refine wpList_box rfl 31 (.tmp 10) (.tmp 72) rfl (wq.heap.size) _ #[.int .i64 2, .int .i64 (10 + (if 1000 < nV b then 1000 else nV b)), .int .i64 0, .int .i64 0, .int .i64 3, .int .i64 0, .string c, .int .i64 0, .int .i64 0, .int .i64 0, .int .i64 0, .int .i64 0, .int .i64 0, .int .i64 0, .string ⟨#[]⟩, .int .i64 0, .int .i64 0, .int .i64 0, .int .i64 0, .string ⟨#[]⟩, .string ⟨#[]⟩, .string ⟨#[]⟩, .int .i64 0, .int .i64 0, .int .i64 0, .int .i64 0] 31 ?_ ?_ (blk_new _ _ _) ?_ ?_ ?_ ?_; go_must ((iterate 3 (first | rfl | kernel_rfl)); (iterate 2 (first | kernel_rfl | rfl)); intro wB Bb Bf Bg; simp only [Act.put])) | (refine wpList_ldbox rfl 31 (.tmp 10) rfl (wq.heap.size) #[.int .i64 2, .int .i64 (10 + (if 1000 < nV b then 1000 else nV b)), .int .i64 0, .int .i64 0, .int .i64 3, .int .i64 0, .string c, .int .i64 0, .int .i64 0, .int .i64 0, .int .i64 0, .int .i64 0, .int .i64 0, .int .i64 0, .string ⟨#[]⟩, .int .i64 0, .int .i64 0, .int .i64 0, .int .i64 0, .string ⟨#[]⟩, .string ⟨#[]⟩, .string ⟨#[]⟩, .int .i64 0, .int .i64 0, .int .i64 0, .int .i64 0] 31 ?_ Bb ?_ ?_ ?_; go_must ((first | rfl | kernel_rfl); (iterate 2 kernel_rfl); simp only [Act.put])) | (refine wpList_box rfl 31 (.tmp 2) (.tmp 89) rfl (w.heap.size) _ #[.int .i64 2, .int .i64 (10 + (if 1000 < nV b then 1000 else nV b)), .int .i64 0, .int .i64 0, .int .i64 3, .int .i64 0, .string c, .int .i64 0, .int .i64 0, .int .i64 0, .int .i64 0, .int .i64 0, .int .i64 0, .int .i64 0, .string ⟨#[]⟩, .int .i64 0, .int .i64 0, .int .i64 0, .int .i64 0, .string ⟨#[]⟩, .string ⟨#[]⟩, .string ⟨#[]⟩, .int .i64 0, .int .i64 0, .int .i64 0, .int .i64 0] 31 ?_ ?_ ((Bf _ HZ.out.2.2.1).trans (((bel_new wq _).block _ HZ.out.2.1).trans HZ.out.1)) ?_ ?_ ?_ ?_; go_must ((iterate 3 (first | rfl | kernel_rfl)); (iterate 2 (first | kernel_rfl | rfl)); intro wA Ab Af Ag; simp only [Act.put])))
            all_goals
             have G2 := Ag (Bg (HZ.out.2.2.2.trans ((bel_new wq _).mono HZ.out.2.2.2.size)) HZ.out.2.2.2.size) (Nat.le_refl _)
             refine res_box2 Try.results8 Ab rfl rfl (by kernel_rfl) (by kernel_rfl) rfl ?_
             exact ⟨rdP (by cases h : nB b <;> simp [rlA, HO.out, h]) (fun U hU => by
               have e : rlA [a, b, c] = if opOf a ≠ 0 ∧ nB b = true then some (waC 2 (mnI (nV b)) (opOf a) 0 c 0 0) else none := rfl
               rw [e, HO.out] at hU
               split at hU
               · cases hU; rfl
               · cases hU), G2⟩
          · have f1 : (a.toList == [114, 101, 110, 101, 119]) = false := beq_eq_false_iff_ne.2 fun e => he (ByteArray.ext (Array.toList_inj.1 (by rw [ByteArray.toList_eq] at e; exact e)))
            have f2 : ([114, 101, 110, 101, 119] == a.toList) = false := beq_eq_false_iff_ne.2 fun e => beq_eq_false_iff_ne.1 f1 e.symm
            have f3 : ([114, 101, 110, 101, 119] != a.toList) = true := by simp only [bne, f2]; rfl
            have HN3 : Hid (∀ j, 1 ≤ j → j < 3 + 1 → a ≠ opW j) := fun j h1 h2 => by
              by_cases e : j = 3
              · subst e; exact he
              · exact HN.out j h1 (by omega)
            clear he HN
            go_upto_region 9 with fail
            go_quiet (fail)
            have hbq : Below w1.heap.size w1 (wr.drewN nq) := hbr.trans ((bel_drewN wr nq).mono hbr.size)
            generalize wr.drewN nq = wq at hbq ⊢
            go_wp2_with fail
            exact ⟨⟨3 + 1, by omega, by omega, by go_num, hbq, HN3.out⟩, by simp [intOf]⟩
        · have o1 := (blk_cell e4 4 (x := .string ⟨#[113, 117, 101, 114, 121]⟩) rfl).1
          by_cases he : a = wa4
          · have HO : Hid (opOf a = 4) := by rw [he]; exact opOf_at (k := 4) (by omega) (by omega)
            have f1 : (a.toList == [113, 117, 101, 114, 121]) = true := by rw [ByteArray.toList_eq, he]; rfl
            have f2 : ([113, 117, 101, 114, 121] == a.toList) = true := by rw [ByteArray.toList_eq, he]; rfl
            have f3 : ([113, 117, 101, 114, 121] != a.toList) = false := by rw [ByteArray.toList_eq, he]; rfl
            clear he HN
            go_upto_region 9 with fail
            go_quiet (fail)
            have hbq : Below w1.heap.size w1 (wr.drewN nq) := hbr.trans ((bel_drewN wr nq).mono hbr.size)
            generalize wr.drewN nq = wq at hbq ⊢
            clear e0 e1 e2 e3 e4 o1 f1 f2 f3
            obtain ⟨e0, e1, e2, e3, _, eB⟩ := HCL.out wq hbq
            have HZ : Hid (wq.heap[w.heap.size]? = some (.cells #[.int .i64 0, .int .i64 0, .int .i64 0, .int .i64 0, .int .i64 0, .int .i64 0, .string ⟨#[]⟩, .int .i64 0, .int .i64 0, .int .i64 0, .int .i64 0, .int .i64 0, .int .i64 0, .int .i64 0, .string ⟨#[]⟩, .int .i64 0, .int .i64 0, .int .i64 0, .int .i64 0, .string ⟨#[]⟩, .string ⟨#[]⟩, .string ⟨#[]⟩, .int .i64 0, .int .i64 0, .int .i64 0, .int .i64 0] 31 (0, 0)) ∧ w.heap.size < wq.heap.size ∧ w.heap.size ≠ wq.heap.size ∧ Below w.heap.size w wq) := ⟨e3, (Array.getElem?_eq_some_iff.1 e3).1, Nat.ne_of_lt (Array.getElem?_eq_some_iff.1 e3).1, eB⟩
            clear e3 eB
            obtain ⟨hv1, hv2⟩ := nV_lt b
            go_wp2_with (first | (go_at_call 15; (first | (with_reducible refine (HN2.out _).mono ?_)); rintro e w2 ⟨rfl, hw⟩; rw [hw]; clear hw) | (refine wpList_box rfl 31 (.tmp 10) (.tmp 72) rfl (wq.heap.size) _ #[.int .i64 2, .int .i64 (10 + (if 1000 < nV b then 1000 else nV b)), .int .i64 0, .int .i64 0, .int .i64 4, .int .i64 0, .string c, .int .i64 0, .int .i64 0, .int .i64 0, .int .i64 0, .int .i64 0, .int .i64 0, .int .i64 0, .string ⟨#[]⟩, .int .i64 0, .int .i64 0, .int .i64 0, .int .i64 0, .string ⟨#[]⟩, .string ⟨#[]⟩, .string ⟨#[]⟩, .int .i64 0, .int .i64 0, .int .i64 0, .int .i64 0] 31 ?_ ?_ (blk_new _ _ _) ?_ ?_ ?_ ?_; go_must ((iterate 3 (first | rfl | kernel_rfl)); (iterate 2 (first | kernel_rfl | rfl)); intro wB Bb Bf Bg; simp only [Act.put])) | (refine wpList_ldbox rfl 31 (.tmp 10) rfl (wq.heap.size) #[.int .i64 2, .int .i64 (10 + (if 1000 < nV b then 1000 else nV b)), .int .i64 0, .int .i64 0, .int .i64 4, .int .i64 0, .string c, .int .i64 0, .int .i64 0, .int .i64 0, .int .i64 0, .int .i64 0, .int .i64 0, .int .i64 0, .string ⟨#[]⟩, .int .i64 0, .int .i64 0, .int .i64 0, .int .i64 0, .string ⟨#[]⟩, .string ⟨#[]⟩, .string ⟨#[]⟩, .int .i64 0, .int .i64 0, .int .i64 0, .int .i64 0] 31 ?_ Bb ?_ ?_ ?_; go_must ((first | rfl | kernel_rfl); (iterate 2 kernel_rfl); simp only [Act.put])) | (refine wpList_box rfl 31 (.tmp 2) (.tmp 89) rfl (w.heap.size) _ #[.int .i64 2, .int .i64 (10 + (if 1000 < nV b then 1000 else nV b)), .int .i64 0, .int .i64 0, .int .i64 4, .int .i64 0, .string c, .int .i64 0, .int .i64 0, .int .i64 0, .int .i64 0, .int .i64 0, .int .i64 0, .int .i64 0, .string ⟨#[]⟩, .int .i64 0, .int .i64 0, .int .i64 0, .int .i64 0, .string ⟨#[]⟩, .string ⟨#[]⟩, .string ⟨#[]⟩, .int .i64 0, .int .i64 0, .int .i64 0, .int .i64 0] 31 ?_ ?_ ((Bf _ HZ.out.2.2.1).trans (((bel_new wq _).block _ HZ.out.2.1).trans HZ.out.1)) ?_ ?_ ?_ ?_; go_must ((iterate 3 (first | rfl | kernel_rfl)); (iterate 2 (first | kernel_rfl | rfl)); intro wA Ab Af Ag; simp only [Act.put])))
            all_goals
             have G2 := Ag (Bg (HZ.out.2.2.2.trans ((bel_new wq _).mono HZ.out.2.2.2.size)) HZ.out.2.2.2.size) (Nat.le_refl _)
             refine res_box2 Try.results8 Ab rfl rfl (by kernel_rfl) (by kernel_rfl) rfl ?_
             exact ⟨rdP (by cases h : nB b <;> simp [rlA, HO.out, h]) (fun U hU => by
               have e : rlA [a, b, c] = if opOf a ≠ 0 ∧ nB b = true then some (waC 2 (mnI (nV b)) (opOf a) 0 c 0 0) else none := rfl
               rw [e, HO.out] at hU
               split at hU
               · cases hU; rfl
               · cases hU), G2⟩
          · have f1 : (a.toList == [113, 117, 101, 114, 121]) = false := beq_eq_false_iff_ne.2 fun e => he (ByteArray.ext (Array.toList_inj.1 (by rw [ByteArray.toList_eq] at e; exact e)))
            have f2 : ([113, 117, 101, 114, 121] == a.toList) = false := beq_eq_false_iff_ne.2 fun e => beq_eq_false_iff_ne.1 f1 e.symm
            have f3 : ([113, 117, 101, 114, 121] != a.toList) = true := by simp only [bne, f2]; rfl
            have HN3 : Hid (∀ j, 1 ≤ j → j < 4 + 1 → a ≠ opW j) := fun j h1 h2 => by
              by_cases e : j = 4
              · subst e; exact he
              · exact HN.out j h1 (by omega)
            clear he HN
            go_upto_region 9 with fail
            go_quiet (fail)
            have hbq : Below w1.heap.size w1 (wr.drewN nq) := hbr.trans ((bel_drewN wr nq).mono hbr.size)
            generalize wr.drewN nq = wq at hbq ⊢
            go_wp2_with fail
            exact ⟨⟨4 + 1, by omega, by omega, by go_num, hbq, HN3.out⟩, by simp [intOf]⟩
      · have hq : q = 5 := by omega
        subst hq
        have HO : Hid (opOf a = 0) := opOf_none fun j h1 h2 => HN.out j h1 h2
        clear HN hlt hq1 hq5
        obtain ⟨_, _, _, He3, _, HeB⟩ := HCL.out wr hbr
        have HZ : Hid (wr.heap[w.heap.size]? = some (.cells #[.int .i64 0, .int .i64 0, .int .i64 0, .int .i64 0, .int .i64 0, .int .i64 0, .string ⟨#[]⟩, .int .i64 0, .int .i64 0, .int .i64 0, .int .i64 0, .int .i64 0, .int .i64 0, .int .i64 0, .string ⟨#[]⟩, .int .i64 0, .int .i64 0, .int .i64 0, .int .i64 0, .string ⟨#[]⟩, .string ⟨#[]⟩, .string ⟨#[]⟩, .int .i64 0, .int .i64 0, .int .i64 0, .int .i64 0] 31 (0, 0)) ∧ Below w.heap.size w wr) := ⟨He3, HeB⟩
        clear He3 HeB
        go_wp2_with (first | (refine wpList_box rfl 31 (.tmp 2) (.tmp 91) rfl (w.heap.size) _ #[.int .i64 0, .int .i64 0, .int .i64 0, .int .i64 0, .int .i64 0, .int .i64 0, .string ⟨#[]⟩, .int .i64 0, .int .i64 0, .int .i64 0, .int .i64 0, .int .i64 0, .int .i64 0, .int .i64 0, .string ⟨#[]⟩, .int .i64 0, .int .i64 0, .int .i64 0, .int .i64 0, .string ⟨#[]⟩, .string ⟨#[]⟩, .string ⟨#[]⟩, .int .i64 0, .int .i64 0, .int .i64 0, .int .i64 0] 31 ?_ ?_ HZ.out.1 ?_ ?_ ?_ ?_; go_must ((iterate 3 (first | rfl | kernel_rfl)); (iterate 2 (first | kernel_rfl | rfl)); intro wA Ab Af Ag; simp only [Act.put])))
        have G2 := Ag HZ.out.2 (Nat.le_refl _)
        refine res_box2 Try.results8 Ab rfl rfl (by kernel_rfl) (by kernel_rfl) rfl ?_
        exact ⟨rdP (by simp [rlA, HO.out]) (fun U hU => by simp [rlA, HO.out] at hU), G2⟩
end Go.Proofs.Ytlhokhccjejcoaa.Rl16
