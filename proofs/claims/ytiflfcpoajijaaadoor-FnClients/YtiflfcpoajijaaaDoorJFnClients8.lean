/- Replies that are counted: CountReplies, of the program and of the specification. -/
import Derived.Test.YtiflfcpoajijaaaDoorJFnClients5
import Derived.Test.YtiflfcpoajijaaaDoorJFnClients7
import Derived.Test.YtiflfcpoajijaaaDoorJFnClients0
import Derived.BigQuiet
import Derived.Deep.CutRange
import Derived.Deep.LoopGhost
import Derived.WalkMore
namespace Go.Proofs.YtiflfcpoajijaaaDoor.Rk

open Go.Proofs.YtiflfcpoajijaaaDoor.Rin
open Go.RowKit Go.Proofs.YtiflfcpoajijaaaDoor.Sl Go.Proofs.YtiflfcpoajijaaaDoor.Rg
open Go.Proofs.YtiflfcpoajijaaaDoor.Gy (Re)
open Go.Proofs.YtiflfcpoajijaaaDoor.Tm (fCode fOut f_cases implFaultsOf_any)
open Go.Proofs.YtiflfcpoajijaaaDoor.Ry (lokB rokB implReplyOK_any)
open Go.Proofs.YtiflfcpoajijaaaDoor.Sh (KTab KTab.below)

/-- What CountReplies answers. -/
def ccR (n c s : Int) (L : List Re) : Option An := cs (fOut n).toNat (gB n c s) L L.length
def ccC (n c s : Int) (L : List Re) : Int := if 4096 < L.length then 2 else if fCode n = 0 then (if 60 < L.length then 6 else if (ccR n c s L).isSome then 0 else 19) else 4
def ccA (n c s : Int) (L : List Re) : An := if 4096 < L.length then (0, 0, 0, 0) else if fCode n = 0 then (if 60 < L.length then (0, 0, 0, 0) else foA (ccR n c s L)) else (0, 0, 0, 0)
theorem cc_cases (n c s : Int) (L : List Re) : (4096 < L.length ∧ ccA n c s L = (0, 0, 0, 0) ∧ ccC n c s L = 2) ∨ (¬ 4096 < L.length ∧ fCode n = 4 ∧ ccA n c s L = (0, 0, 0, 0) ∧ ccC n c s L = 4) ∨ (¬ 4096 < L.length ∧ fCode n = 0 ∧ 60 < L.length ∧ ccA n c s L = (0, 0, 0, 0) ∧ ccC n c s L = 6) ∨ (¬ 4096 < L.length ∧ fCode n = 0 ∧ ¬ 60 < L.length ∧ ((ccR n c s L = none ∧ ccA n c s L = (0, 0, 0, 0) ∧ ccC n c s L = 19) ∨ ∃ a, ccR n c s L = some a ∧ ccA n c s L = a ∧ ccC n c s L = 0)) := by
  unfold ccC ccA
  by_cases h0 : 4096 < L.length
  · rw [if_pos h0, if_pos h0]; exact .inl ⟨h0, rfl, rfl⟩
  rw [if_neg h0, if_neg h0]
  by_cases h1 : fCode n = 0
  · rw [if_pos h1, if_pos h1]
    by_cases h2 : 60 < L.length
    · rw [if_pos h2, if_pos h2]; exact .inr (.inr (.inl ⟨h0, h1, h2, rfl, rfl⟩))
    · rw [if_neg h2, if_neg h2]
      refine .inr (.inr (.inr ⟨h0, h1, h2, ?_⟩))
      cases h3 : ccR n c s L with
      | none => exact .inl ⟨rfl, rfl, rfl⟩
      | some a => exact .inr ⟨a, rfl, rfl, rfl⟩
  · rw [if_neg h1, if_neg h1]
    refine .inr (.inl ⟨h0, ?_, rfl, rfl⟩)
    rcases f_cases n with rfl | rfl | rfl | ⟨_, _, _, _, hc⟩
    · exact absurd (by decide) h1
    · exact absurd (by decide) h1
    · exact absurd (by decide) h1
    · exact hc
theorem f_three {n : Int} (h : fCode n = 0) : (n = 1 ∧ fOut n = 0) ∨ (n = 4 ∧ fOut n = 1) ∨ (n = 7 ∧ fOut n = 2) := by
  rcases f_cases n with rfl | rfl | rfl | ⟨_, _, _, _, hc⟩
  · exact .inl ⟨rfl, by decide⟩
  · exact .inr (.inl ⟨rfl, by decide⟩)
  · exact .inr (.inr ⟨rfl, by decide⟩)
  · rw [hc] at h; cases h
theorem cc_fs (n c s : Int) (L : List Re) : ccR n c s L = fs ((fOut n).toNat + 1) (voices (gB n c s) L) (voices (gB n c s) L).length := by
  unfold ccR
  rw [cs_fs, List.take_length]
set_option maxRecDepth 100000 in
set_option maxHeartbeats 3200000 in
theorem implCountReplies_any (n c s : Int) (v : Value) (L : List Re) (w : World) (h : Gy.Row w v L) (hl : L.length ≤ 1048576) (hK : KTab w) (hp : 0 < w.heap.size) :
    Calls Tryd.prog 76 #[.int .i64 n, .int .i64 c, .int .i64 s, v] w fun e w' => e = .returned (.tuple #[anV (ccA n c s L), .int .i64 (ccC n c s L)]) ∧ Below w.heap.size w w' := by
  have HX : Hid (∀ W, Below (w.alloc (.cells #[.int .i64 0, .int .i64 0, .int .i64 0, .int .i64 0] 35)).heap.size (w.alloc (.cells #[.int .i64 0, .int .i64 0, .int .i64 0, .int .i64 0] 35)) W → W.heap[w.heap.size]? = some (.cells #[.int .i64 0, .int .i64 0, .int .i64 0, .int .i64 0] 35 (0, 0)) ∧ Gy.Row W v L ∧ Below w.heap.size w W) := fun W hW => by
    have h1 := (hW.block w.heap.size (by simp)).trans (heap_alloc_new w _)
    have b := (bel_new w (.cells #[.int .i64 0, .int .i64 0, .int .i64 0, .int .i64 0] 35)).trans (hW.mono (by simp))
    exact ⟨h1, h.below b, b⟩
  have HKT : Hid (∀ W, Below w.heap.size w W → KTab W ∧ 0 < W.heap.size) := fun W hW => ⟨hK.below hW hp, Nat.lt_of_lt_of_le hp hW.size⟩
  have HF0 := fun W => implFaultsOf_any n W
  obtain ⟨a, cap, rfl⟩ := RowG.slice h
  clear h hK hp
  rcases cc_cases n c s L with ⟨h0, e1, e2⟩ | ⟨h0, hn, e1, e2⟩ | ⟨h0, hn, h6, e1, e2⟩ | ⟨h0, hn, h6, hr⟩
  · have h0' : (4096 : Int) < (L.length : Int) := by omega
    have HE : Hid (ccA n c s L = (0, 0, 0, 0) ∧ ccC n c s L = 2) := ⟨e1, e2⟩
    clear HF0 h0
    clear e1 e2
    go_enter Tryd.func76, Tryd.ntmps76
    go_upto_region 1 with fail
    generalize w.alloc (.cells #[.int .i64 0, .int .i64 0, .int .i64 0, .int .i64 0] 35) = wb at HX ⊢
    have A3 : Hid (wb.heap[w.heap.size]? = some (.cells #[.int .i64 0, .int .i64 0, .int .i64 0, .int .i64 0] 35 (0, 0))) := (HX.out _ (Below.refl _ _)).1
    have G3 : Hid (Below w.heap.size w wb) := (HX.out _ (Below.refl _ _)).2.2
    obtain ⟨m0, n0⟩ := blk_cell A3.out 0 (x := .int .i64 0) rfl
    obtain ⟨m1, n1⟩ := blk_cell A3.out 1 (x := .int .i64 0) rfl
    obtain ⟨m2, n2⟩ := blk_cell A3.out 2 (x := .int .i64 0) rfl
    obtain ⟨m3, n3⟩ := blk_cell A3.out 3 (x := .int .i64 0) rfl
    have AF : ((((wb.setCell ⟨w.heap.size, 0, none⟩ (.int .i64 0)).setCell ⟨w.heap.size, 1, none⟩ (.int .i64 0)).setCell ⟨w.heap.size, 2, none⟩ (.int .i64 0)).setCell ⟨w.heap.size, 3, none⟩ (.int .i64 0)).heap[w.heap.size]? = some (.cells #[.int .i64 0, .int .i64 0, .int .i64 0, .int .i64 0] 35 (0, 0)) := (blk_set (blk_set (blk_set (blk_set A3.out _ _) _ _) _ _) _ _)
    have GF : Below w.heap.size w ((((wb.setCell ⟨w.heap.size, 0, none⟩ (.int .i64 0)).setCell ⟨w.heap.size, 1, none⟩ (.int .i64 0)).setCell ⟨w.heap.size, 2, none⟩ (.int .i64 0)).setCell ⟨w.heap.size, 3, none⟩ (.int .i64 0)) := (Below.setCell (Below.setCell (Below.setCell (Below.setCell G3.out (p := ⟨w.heap.size, 0, none⟩) (by first | omega | (simp; done) | (simp; omega)) (.int .i64 0)) (p := ⟨w.heap.size, 1, none⟩) (by first | omega | (simp; done) | (simp; omega)) (.int .i64 0)) (p := ⟨w.heap.size, 2, none⟩) (by first | omega | (simp; done) | (simp; omega)) (.int .i64 0)) (p := ⟨w.heap.size, 3, none⟩) (by first | omega | (simp; done) | (simp; omega)) (.int .i64 0))
    go_wp2_with fail
    generalize ((((wb.setCell ⟨w.heap.size, 0, none⟩ (.int .i64 0)).setCell ⟨w.heap.size, 1, none⟩ (.int .i64 0)).setCell ⟨w.heap.size, 2, none⟩ (.int .i64 0)).setCell ⟨w.heap.size, 3, none⟩ (.int .i64 0)) = wf at AF GF ⊢
    have d0 := (blk_cell AF 0 (x := .int .i64 0) rfl).1
    have d1 := (blk_cell AF 1 (x := .int .i64 0) rfl).1
    have d2 := (blk_cell AF 2 (x := .int .i64 0) rfl).1
    have d3 := (blk_cell AF 3 (x := .int .i64 0) rfl).1
    exact bodyPost_ret (v := .tuple #[.agg #[.int .i64 0, .int .i64 0, .int .i64 0, .int .i64 0], .int .i64 2]) (by simp [results, Tryd.results76, go_sem, d0, d1, d2, d3]) rfl ⟨ret_ai (a := (0, 0, 0, 0)) ⟨HE.out.1.symm, HE.out.2.symm⟩, GF⟩
  · have h0' : ¬ (4096 : Int) < (L.length : Int) := by omega
    have HE : Hid (ccA n c s L = (0, 0, 0, 0) ∧ ccC n c s L = 4) := ⟨e1, e2⟩
    have HF4 : Hid (∀ W, Calls Tryd.prog 21 #[.int .i64 n] W fun e w' => e = .returned (.tuple #[.int .i64 (fOut n), .int .i64 4]) ∧ w' = W) := fun W => by have := HF0 W; rwa [hn] at this
    clear hn HF0
    clear h0
    clear e1 e2
    go_enter Tryd.func76, Tryd.ntmps76
    go_upto_region 1 with fail
    generalize w.alloc (.cells #[.int .i64 0, .int .i64 0, .int .i64 0, .int .i64 0] 35) = wb at HX ⊢
    have A3 : Hid (wb.heap[w.heap.size]? = some (.cells #[.int .i64 0, .int .i64 0, .int .i64 0, .int .i64 0] 35 (0, 0))) := (HX.out _ (Below.refl _ _)).1
    have G3 : Hid (Below w.heap.size w wb) := (HX.out _ (Below.refl _ _)).2.2
    go_wp2_with fail
    refine (HF4.out _).mono ?_
    rintro e w1 ⟨rfl, hw⟩
    rw [hw]
    clear hw
    obtain ⟨m0, n0⟩ := blk_cell A3.out 0 (x := .int .i64 0) rfl
    obtain ⟨m1, n1⟩ := blk_cell A3.out 1 (x := .int .i64 0) rfl
    obtain ⟨m2, n2⟩ := blk_cell A3.out 2 (x := .int .i64 0) rfl
    obtain ⟨m3, n3⟩ := blk_cell A3.out 3 (x := .int .i64 0) rfl
    have AF : ((((wb.setCell ⟨w.heap.size, 0, none⟩ (.int .i64 0)).setCell ⟨w.heap.size, 1, none⟩ (.int .i64 0)).setCell ⟨w.heap.size, 2, none⟩ (.int .i64 0)).setCell ⟨w.heap.size, 3, none⟩ (.int .i64 0)).heap[w.heap.size]? = some (.cells #[.int .i64 0, .int .i64 0, .int .i64 0, .int .i64 0] 35 (0, 0)) := (blk_set (blk_set (blk_set (blk_set A3.out _ _) _ _) _ _) _ _)
    have GF : Below w.heap.size w ((((wb.setCell ⟨w.heap.size, 0, none⟩ (.int .i64 0)).setCell ⟨w.heap.size, 1, none⟩ (.int .i64 0)).setCell ⟨w.heap.size, 2, none⟩ (.int .i64 0)).setCell ⟨w.heap.size, 3, none⟩ (.int .i64 0)) := (Below.setCell (Below.setCell (Below.setCell (Below.setCell G3.out (p := ⟨w.heap.size, 0, none⟩) (by first | omega | (simp; done) | (simp; omega)) (.int .i64 0)) (p := ⟨w.heap.size, 1, none⟩) (by first | omega | (simp; done) | (simp; omega)) (.int .i64 0)) (p := ⟨w.heap.size, 2, none⟩) (by first | omega | (simp; done) | (simp; omega)) (.int .i64 0)) (p := ⟨w.heap.size, 3, none⟩) (by first | omega | (simp; done) | (simp; omega)) (.int .i64 0))
    go_wp2_with fail
    generalize ((((wb.setCell ⟨w.heap.size, 0, none⟩ (.int .i64 0)).setCell ⟨w.heap.size, 1, none⟩ (.int .i64 0)).setCell ⟨w.heap.size, 2, none⟩ (.int .i64 0)).setCell ⟨w.heap.size, 3, none⟩ (.int .i64 0)) = wf at AF GF ⊢
    have d0 := (blk_cell AF 0 (x := .int .i64 0) rfl).1
    have d1 := (blk_cell AF 1 (x := .int .i64 0) rfl).1
    have d2 := (blk_cell AF 2 (x := .int .i64 0) rfl).1
    have d3 := (blk_cell AF 3 (x := .int .i64 0) rfl).1
    exact bodyPost_ret (v := .tuple #[.agg #[.int .i64 0, .int .i64 0, .int .i64 0, .int .i64 0], .int .i64 4]) (by simp [results, Tryd.results76, go_sem, d0, d1, d2, d3]) rfl ⟨ret_ai (a := (0, 0, 0, 0)) ⟨HE.out.1.symm, HE.out.2.symm⟩, GF⟩
  · have h0' : ¬ (4096 : Int) < (L.length : Int) := by omega
    have h6' : (60 : Int) < (L.length : Int) := by omega
    have HE : Hid (ccA n c s L = (0, 0, 0, 0) ∧ ccC n c s L = 6) := ⟨e1, e2⟩
    have HF4 : Hid (∀ W, Calls Tryd.prog 21 #[.int .i64 n] W fun e w' => e = .returned (.tuple #[.int .i64 (fOut n), .int .i64 0]) ∧ w' = W) := fun W => by have := HF0 W; rwa [hn] at this
    clear hn HF0
    clear h0 h6
    clear e1 e2
    go_enter Tryd.func76, Tryd.ntmps76
    go_upto_region 1 with fail
    generalize w.alloc (.cells #[.int .i64 0, .int .i64 0, .int .i64 0, .int .i64 0] 35) = wb at HX ⊢
    have A3 : Hid (wb.heap[w.heap.size]? = some (.cells #[.int .i64 0, .int .i64 0, .int .i64 0, .int .i64 0] 35 (0, 0))) := (HX.out _ (Below.refl _ _)).1
    have G3 : Hid (Below w.heap.size w wb) := (HX.out _ (Below.refl _ _)).2.2
    go_wp2_with fail
    refine (HF4.out _).mono ?_
    rintro e w1 ⟨rfl, hw⟩
    rw [hw]
    clear hw
    obtain ⟨m0, n0⟩ := blk_cell A3.out 0 (x := .int .i64 0) rfl
    obtain ⟨m1, n1⟩ := blk_cell A3.out 1 (x := .int .i64 0) rfl
    obtain ⟨m2, n2⟩ := blk_cell A3.out 2 (x := .int .i64 0) rfl
    obtain ⟨m3, n3⟩ := blk_cell A3.out 3 (x := .int .i64 0) rfl
    have AF : ((((wb.setCell ⟨w.heap.size, 0, none⟩ (.int .i64 0)).setCell ⟨w.heap.size, 1, none⟩ (.int .i64 0)).setCell ⟨w.heap.size, 2, none⟩ (.int .i64 0)).setCell ⟨w.heap.size, 3, none⟩ (.int .i64 0)).heap[w.heap.size]? = some (.cells #[.int .i64 0, .int .i64 0, .int .i64 0, .int .i64 0] 35 (0, 0)) := (blk_set (blk_set (blk_set (blk_set A3.out _ _) _ _) _ _) _ _)
    have GF : Below w.heap.size w ((((wb.setCell ⟨w.heap.size, 0, none⟩ (.int .i64 0)).setCell ⟨w.heap.size, 1, none⟩ (.int .i64 0)).setCell ⟨w.heap.size, 2, none⟩ (.int .i64 0)).setCell ⟨w.heap.size, 3, none⟩ (.int .i64 0)) := (Below.setCell (Below.setCell (Below.setCell (Below.setCell G3.out (p := ⟨w.heap.size, 0, none⟩) (by first | omega | (simp; done) | (simp; omega)) (.int .i64 0)) (p := ⟨w.heap.size, 1, none⟩) (by first | omega | (simp; done) | (simp; omega)) (.int .i64 0)) (p := ⟨w.heap.size, 2, none⟩) (by first | omega | (simp; done) | (simp; omega)) (.int .i64 0)) (p := ⟨w.heap.size, 3, none⟩) (by first | omega | (simp; done) | (simp; omega)) (.int .i64 0))
    go_wp2_with fail
    generalize ((((wb.setCell ⟨w.heap.size, 0, none⟩ (.int .i64 0)).setCell ⟨w.heap.size, 1, none⟩ (.int .i64 0)).setCell ⟨w.heap.size, 2, none⟩ (.int .i64 0)).setCell ⟨w.heap.size, 3, none⟩ (.int .i64 0)) = wf at AF GF ⊢
    have d0 := (blk_cell AF 0 (x := .int .i64 0) rfl).1
    have d1 := (blk_cell AF 1 (x := .int .i64 0) rfl).1
    have d2 := (blk_cell AF 2 (x := .int .i64 0) rfl).1
    have d3 := (blk_cell AF 3 (x := .int .i64 0) rfl).1
    exact bodyPost_ret (v := .tuple #[.agg #[.int .i64 0, .int .i64 0, .int .i64 0, .int .i64 0], .int .i64 6]) (by simp [results, Tryd.results76, go_sem, d0, d1, d2, d3]) rfl ⟨ret_ai (a := (0, 0, 0, 0)) ⟨HE.out.1.symm, HE.out.2.symm⟩, GF⟩
  · have h0' : ¬ (4096 : Int) < (L.length : Int) := by omega
    have h6' : ¬ (60 : Int) < (L.length : Int) := by omega
    have HAT : Hid (∀ W, Below w.heap.size w W → Gy.Row W (.slice a L.length cap) L → Calls Tryd.prog 82 #[.int .i64 n, .int .i64 c, .int .i64 s, .slice a L.length cap] W fun e w' => ∃ u, e = .returned u ∧ RowV w' u (voices (gB n c s) L) ∧ Below W.heap.size W w') := fun W hW hr => (answersTo_any n c s _ L W hr (by omega) hn (HKT.out W hW).1 (HKT.out W hW).2).mono fun e w' ⟨u, h1, h2, h3⟩ => ⟨u, h1, h2.row, h3⟩
    obtain ⟨f, hf⟩ : ∃ f : Nat, fOut n = (f : Int) := by
      rcases f_three hn with ⟨_, h⟩ | ⟨_, h⟩ | ⟨_, h⟩
      · exact ⟨0, by rw [h]; rfl⟩
      · exact ⟨1, by rw [h]; rfl⟩
      · exact ⟨2, by rw [h]; rfl⟩
    have hf3 : f ≤ 2 := by rcases f_three hn with ⟨_, h⟩ | ⟨_, h⟩ | ⟨_, h⟩ <;> (rw [hf] at h; omega)
    have HFS : Hid (∀ W u, RowV W u (voices (gB n c s) L) → Calls Tryd.prog 81 #[.int .i64 ((f : Int) + 1), u] W fun e w' => e = .returned (.tuple #[anV (foA (ccR n c s L)), .bool (ccR n c s L).isSome]) ∧ Below W.heap.size W w') := fun W u hu => by
      have h1 := fsb_any (f + 1) ((f : Int) + 1) (by omega) u _ W hu (by have := vs_len (gB n c s) L; omega)
      have h2 := cc_fs n c s L
      rw [hf, Int.toNat_natCast] at h2
      rw [← h2] at h1
      exact h1
    have HF : Hid (∀ W, Calls Tryd.prog 21 #[.int .i64 n] W fun e w' => e = .returned (.tuple #[.int .i64 (f : Int), .int .i64 0]) ∧ w' = W) := fun W => by have := HF0 W; rwa [hf, hn] at this
    clear HF0 hn hf h0 h6
    rcases hr with ⟨hr, e1, e2⟩ | ⟨x, hr, e1, e2⟩
    · rw [hr] at HFS
      have HE : Hid (ccA n c s L = (0, 0, 0, 0) ∧ ccC n c s L = 19) := ⟨e1, e2⟩
      clear e1 e2 hr
      unfold anV foA at HFS
      go_enter Tryd.func76, Tryd.ntmps76
      go_upto_region 1 with fail
      generalize w.alloc (.cells #[.int .i64 0, .int .i64 0, .int .i64 0, .int .i64 0] 35) = wb at HX ⊢
      go_wp2_with fail
      refine (HF.out _).mono ?_
      rintro e w1 ⟨rfl, hw⟩
      rw [hw]
      clear hw
      have RW0 : Hid (Gy.Row wb (.slice a L.length cap) L ∧ Below w.heap.size w wb) := (HX.out _ (Below.refl _ _)).2
      go_wp2_with fail
      refine (HAT.out _ RW0.out.2 RW0.out.1).mono ?_
      rintro e w2 ⟨u, rfl, r2, b2⟩
      have R2 : Hid (RowV w2 u (voices (gB n c s) L) ∧ Below wb.heap.size wb w2) := ⟨r2, b2⟩
      clear r2 b2
      go_wp2_with fail
      refine (HFS.out _ _ R2.out.1).mono ?_
      rintro e w3 ⟨rfl, b3⟩
      have R3 : Hid (Below wb.heap.size wb w3) := R2.out.2.trans (b3.mono R2.out.2.size)
      clear b3
      have R4 : Hid (Below wb.heap.size wb (w3.alloc (.cells #[.int .i64 0, .int .i64 0, .int .i64 0, .int .i64 0] 35))) := R3.out.trans ((bel_new w3 _).mono R3.out.size)
      have A3 : Hid ((w3.alloc (.cells #[.int .i64 0, .int .i64 0, .int .i64 0, .int .i64 0] 35)).heap[w.heap.size]? = some (.cells #[.int .i64 0, .int .i64 0, .int .i64 0, .int .i64 0] 35 (0, 0))) := (HX.out _ R4.out).1
      have G3 : Hid (Below w.heap.size w (w3.alloc (.cells #[.int .i64 0, .int .i64 0, .int .i64 0, .int .i64 0] 35))) := (HX.out _ R4.out).2.2
      have N3 : Hid ((w3.alloc (.cells #[.int .i64 0, .int .i64 0, .int .i64 0, .int .i64 0] 35)).heap[w3.heap.size]? = some (.cells #[.int .i64 0, .int .i64 0, .int .i64 0, .int .i64 0] 35 (0, 0))) := heap_alloc_new w3 _
      clear R4
      go_upto_region 9 with fail
      generalize w3.alloc (.cells #[.int .i64 0, .int .i64 0, .int .i64 0, .int .i64 0] 35) = wq at A3 G3 N3 ⊢
      generalize w3.heap.size = bn at N3 ⊢
      obtain ⟨m0, n0⟩ := blk_cell A3.out 0 (x := .int .i64 0) rfl
      obtain ⟨m1, n1⟩ := blk_cell A3.out 1 (x := .int .i64 0) rfl
      obtain ⟨m2, n2⟩ := blk_cell A3.out 2 (x := .int .i64 0) rfl
      obtain ⟨m3, n3⟩ := blk_cell A3.out 3 (x := .int .i64 0) rfl
      have AF : ((((wq.setCell ⟨w.heap.size, 0, none⟩ (.int .i64 0)).setCell ⟨w.heap.size, 1, none⟩ (.int .i64 0)).setCell ⟨w.heap.size, 2, none⟩ (.int .i64 0)).setCell ⟨w.heap.size, 3, none⟩ (.int .i64 0)).heap[w.heap.size]? = some (.cells #[.int .i64 0, .int .i64 0, .int .i64 0, .int .i64 0] 35 (0, 0)) := (blk_set (blk_set (blk_set (blk_set A3.out _ _) _ _) _ _) _ _)
      have GF : Below w.heap.size w ((((wq.setCell ⟨w.heap.size, 0, none⟩ (.int .i64 0)).setCell ⟨w.heap.size, 1, none⟩ (.int .i64 0)).setCell ⟨w.heap.size, 2, none⟩ (.int .i64 0)).setCell ⟨w.heap.size, 3, none⟩ (.int .i64 0)) := (Below.setCell (Below.setCell (Below.setCell (Below.setCell G3.out (p := ⟨w.heap.size, 0, none⟩) (by first | omega | (simp; done) | (simp; omega)) (.int .i64 0)) (p := ⟨w.heap.size, 1, none⟩) (by first | omega | (simp; done) | (simp; omega)) (.int .i64 0)) (p := ⟨w.heap.size, 2, none⟩) (by first | omega | (simp; done) | (simp; omega)) (.int .i64 0)) (p := ⟨w.heap.size, 3, none⟩) (by first | omega | (simp; done) | (simp; omega)) (.int .i64 0))
      go_wp2_with fail
      generalize ((((wq.setCell ⟨w.heap.size, 0, none⟩ (.int .i64 0)).setCell ⟨w.heap.size, 1, none⟩ (.int .i64 0)).setCell ⟨w.heap.size, 2, none⟩ (.int .i64 0)).setCell ⟨w.heap.size, 3, none⟩ (.int .i64 0)) = wf at AF GF ⊢
      have d0 := (blk_cell AF 0 (x := .int .i64 0) rfl).1
      have d1 := (blk_cell AF 1 (x := .int .i64 0) rfl).1
      have d2 := (blk_cell AF 2 (x := .int .i64 0) rfl).1
      have d3 := (blk_cell AF 3 (x := .int .i64 0) rfl).1
      exact bodyPost_ret (v := .tuple #[.agg #[.int .i64 0, .int .i64 0, .int .i64 0, .int .i64 0], .int .i64 19]) (by simp [results, Tryd.results76, go_sem, d0, d1, d2, d3]) rfl ⟨ret_ai (a := (0, 0, 0, 0)) ⟨HE.out.1.symm, HE.out.2.symm⟩, GF⟩
    · rw [hr] at HFS
      have HE : Hid (ccA n c s L = x ∧ ccC n c s L = 0) := ⟨e1, e2⟩
      clear e1 e2 hr
      unfold anV foA at HFS
      go_enter Tryd.func76, Tryd.ntmps76
      go_upto_region 1 with fail
      generalize w.alloc (.cells #[.int .i64 0, .int .i64 0, .int .i64 0, .int .i64 0] 35) = wb at HX ⊢
      go_wp2_with fail
      refine (HF.out _).mono ?_
      rintro e w1 ⟨rfl, hw⟩
      rw [hw]
      clear hw
      have RW0 : Hid (Gy.Row wb (.slice a L.length cap) L ∧ Below w.heap.size w wb) := (HX.out _ (Below.refl _ _)).2
      go_wp2_with fail
      refine (HAT.out _ RW0.out.2 RW0.out.1).mono ?_
      rintro e w2 ⟨u, rfl, r2, b2⟩
      have R2 : Hid (RowV w2 u (voices (gB n c s) L) ∧ Below wb.heap.size wb w2) := ⟨r2, b2⟩
      clear r2 b2
      go_wp2_with fail
      refine (HFS.out _ _ R2.out.1).mono ?_
      rintro e w3 ⟨rfl, b3⟩
      have R3 : Hid (Below wb.heap.size wb w3) := R2.out.2.trans (b3.mono R2.out.2.size)
      clear b3
      have R4 : Hid (Below wb.heap.size wb (w3.alloc (.cells #[.int .i64 x.1, .int .i64 x.2.1, .int .i64 x.2.2.1, .int .i64 x.2.2.2] 35))) := R3.out.trans ((bel_new w3 _).mono R3.out.size)
      have A3 : Hid ((w3.alloc (.cells #[.int .i64 x.1, .int .i64 x.2.1, .int .i64 x.2.2.1, .int .i64 x.2.2.2] 35)).heap[w.heap.size]? = some (.cells #[.int .i64 0, .int .i64 0, .int .i64 0, .int .i64 0] 35 (0, 0))) := (HX.out _ R4.out).1
      have G3 : Hid (Below w.heap.size w (w3.alloc (.cells #[.int .i64 x.1, .int .i64 x.2.1, .int .i64 x.2.2.1, .int .i64 x.2.2.2] 35))) := (HX.out _ R4.out).2.2
      have N3 : Hid ((w3.alloc (.cells #[.int .i64 x.1, .int .i64 x.2.1, .int .i64 x.2.2.1, .int .i64 x.2.2.2] 35)).heap[w3.heap.size]? = some (.cells #[.int .i64 x.1, .int .i64 x.2.1, .int .i64 x.2.2.1, .int .i64 x.2.2.2] 35 (0, 0))) := heap_alloc_new w3 _
      clear R4
      go_upto_region 9 with fail
      generalize w3.alloc (.cells #[.int .i64 x.1, .int .i64 x.2.1, .int .i64 x.2.2.1, .int .i64 x.2.2.2] 35) = wq at A3 G3 N3 ⊢
      generalize w3.heap.size = bn at N3 ⊢
      have p0 := (blk_cell N3.out 0 (x := .int .i64 x.1) rfl).1
      have p1 := (blk_cell N3.out 1 (x := .int .i64 x.2.1) rfl).1
      have p2 := (blk_cell N3.out 2 (x := .int .i64 x.2.2.1) rfl).1
      have p3 := (blk_cell N3.out 3 (x := .int .i64 x.2.2.2) rfl).1
      obtain ⟨m0, n0⟩ := blk_cell A3.out 0 (x := .int .i64 0) rfl
      obtain ⟨m1, n1⟩ := blk_cell A3.out 1 (x := .int .i64 0) rfl
      obtain ⟨m2, n2⟩ := blk_cell A3.out 2 (x := .int .i64 0) rfl
      obtain ⟨m3, n3⟩ := blk_cell A3.out 3 (x := .int .i64 0) rfl
      have AF : ((((wq.setCell ⟨w.heap.size, 0, none⟩ (.int .i64 x.1)).setCell ⟨w.heap.size, 1, none⟩ (.int .i64 x.2.1)).setCell ⟨w.heap.size, 2, none⟩ (.int .i64 x.2.2.1)).setCell ⟨w.heap.size, 3, none⟩ (.int .i64 x.2.2.2)).heap[w.heap.size]? = some (.cells #[.int .i64 x.1, .int .i64 x.2.1, .int .i64 x.2.2.1, .int .i64 x.2.2.2] 35 (0, 0)) := (blk_set (blk_set (blk_set (blk_set A3.out _ _) _ _) _ _) _ _)
      have GF : Below w.heap.size w ((((wq.setCell ⟨w.heap.size, 0, none⟩ (.int .i64 x.1)).setCell ⟨w.heap.size, 1, none⟩ (.int .i64 x.2.1)).setCell ⟨w.heap.size, 2, none⟩ (.int .i64 x.2.2.1)).setCell ⟨w.heap.size, 3, none⟩ (.int .i64 x.2.2.2)) := (Below.setCell (Below.setCell (Below.setCell (Below.setCell G3.out (p := ⟨w.heap.size, 0, none⟩) (by first | omega | (simp; done) | (simp; omega)) (.int .i64 x.1)) (p := ⟨w.heap.size, 1, none⟩) (by first | omega | (simp; done) | (simp; omega)) (.int .i64 x.2.1)) (p := ⟨w.heap.size, 2, none⟩) (by first | omega | (simp; done) | (simp; omega)) (.int .i64 x.2.2.1)) (p := ⟨w.heap.size, 3, none⟩) (by first | omega | (simp; done) | (simp; omega)) (.int .i64 x.2.2.2))
      go_wp2_with fail
      generalize ((((wq.setCell ⟨w.heap.size, 0, none⟩ (.int .i64 x.1)).setCell ⟨w.heap.size, 1, none⟩ (.int .i64 x.2.1)).setCell ⟨w.heap.size, 2, none⟩ (.int .i64 x.2.2.1)).setCell ⟨w.heap.size, 3, none⟩ (.int .i64 x.2.2.2)) = wf at AF GF ⊢
      have d0 := (blk_cell AF 0 (x := .int .i64 x.1) rfl).1
      have d1 := (blk_cell AF 1 (x := .int .i64 x.2.1) rfl).1
      have d2 := (blk_cell AF 2 (x := .int .i64 x.2.2.1) rfl).1
      have d3 := (blk_cell AF 3 (x := .int .i64 x.2.2.2) rfl).1
      exact bodyPost_ret (v := .tuple #[.agg #[.int .i64 x.1, .int .i64 x.2.1, .int .i64 x.2.2.1, .int .i64 x.2.2.2], .int .i64 0]) (by simp [results, Tryd.results76, go_sem, d0, d1, d2, d3]) rfl ⟨ret_ai (a := x) ⟨HE.out.1.symm, HE.out.2.symm⟩, GF⟩
end Go.Proofs.YtiflfcpoajijaaaDoor.Rk
