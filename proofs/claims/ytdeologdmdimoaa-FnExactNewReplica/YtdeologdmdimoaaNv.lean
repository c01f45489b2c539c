/- Marks on a new replica. -/
import Derived.Test.YtdeologdmdimoaaNu
namespace Go.Proofs.Ytdeologdmdimoaa.Nr
open Go.RowKit Go.Proofs.Ytdeologdmdimoaa.Rg
open Go.Proofs.Ytdeologdmdimoaa.Rr (grown_set grown_trans grown_refl grown_alloc)

theorem grown_bel {B g : Nat} {w w' : World} (h : w.grownBy w' (some g)) (hB : B ≤ w.heap.size) (hg : B ≤ g) : Below B w w' :=
  ⟨h.os, h.tape, h.output, h.size, fun k hk => h.block k (by omega) (by simp; omega)⟩
set_option maxRecDepth 100000 in
set_option maxHeartbeats 800000 in
theorem markRep (id n : Int) (gs gc : Nat) (f : Nat → ByteArray × Bool × Bool) (h : Nat → ByteArray) (w : World) (hs : MS w gs 8 f) (hc : MC w gc 8 h) (hne : gs ≠ gc) :
    Calls Try.prog 9 #[.agg #[.int .i64 id, .int .i64 n, .int .i64 0, .bool true, .slice (some ⟨gs, 0, none⟩) 8 8, .slice (some ⟨gc, 0, none⟩) 8 8, .slice none 0 0, .slice none 0 0], .int .i64 1] w fun e w' => e = .returned (.int .i64 33) ∧ (∃ f', MS w' gs 8 f' ∧ ∀ j, j < 8 → f' j = mf 1 j) ∧ (∃ h', MC w' gc 8 h' ∧ ∀ j, j < 8 → h' j = mtext (25 + j)) ∧ (∀ B, B ≤ w.heap.size → B ≤ gs → B ≤ gc → Below B w w') ∧ ∀ k, k < w.heap.size → k ≠ gs → k ≠ gc → w'.heap[k]? = w.heap[k]? := by
  have ls := hs.lt
  have lc := hc.lt
  have hb := blk_new w #[.int .i64 id, .int .i64 n, .int .i64 0, .bool true, .slice (some ⟨gs, 0, none⟩) 8 8, .slice (some ⟨gc, 0, none⟩) 8 8, .slice none 0 0, .slice none 0 0] 27
  have M0 : Hid (MS (w.alloc (.cells #[.int .i64 id, .int .i64 n, .int .i64 0, .bool true, .slice (some ⟨gs, 0, none⟩) 8 8, .slice (some ⟨gc, 0, none⟩) 8 8, .slice none 0 0, .slice none 0 0] 27)) gs 8 f) := hs.below (bel_new _ _)
  have C0 : Hid (MC (w.alloc (.cells #[.int .i64 id, .int .i64 n, .int .i64 0, .bool true, .slice (some ⟨gs, 0, none⟩) 8 8, .slice (some ⟨gc, 0, none⟩) 8 8, .slice none 0 0, .slice none 0 0] 27)) gc 8 h) := hc.below (bel_new _ _)
  have K0 : Hid ((w.alloc (.cells #[.int .i64 id, .int .i64 n, .int .i64 0, .bool true, .slice (some ⟨gs, 0, none⟩) 8 8, .slice (some ⟨gc, 0, none⟩) 8 8, .slice none 0 0, .slice none 0 0] 27)).heap[w.heap.size]? = some (.cells #[.int .i64 id, .int .i64 n, .int .i64 0, .bool true, .slice (some ⟨gs, 0, none⟩) 8 8, .slice (some ⟨gc, 0, none⟩) 8 8, .slice none 0 0, .slice none 0 0] 27 (0, 0))) := hb
  have B0 : Hid (∀ B, B ≤ w.heap.size → Below B w (w.alloc (.cells #[.int .i64 id, .int .i64 n, .int .i64 0, .bool true, .slice (some ⟨gs, 0, none⟩) 8 8, .slice (some ⟨gc, 0, none⟩) 8 8, .slice none 0 0, .slice none 0 0] 27)) ∧ B ≤ (w.alloc (.cells #[.int .i64 id, .int .i64 n, .int .i64 0, .bool true, .slice (some ⟨gs, 0, none⟩) 8 8, .slice (some ⟨gc, 0, none⟩) 8 8, .slice none 0 0, .slice none 0 0] 27)).heap.size) := fun B hB => ⟨(Below.refl B w).alloc hB _, by rw [size_new]; omega⟩
  clear hs hc hb
  go_enter Try.func9, Try.ntmps9
  go_upto_region 1 with fail
  generalize w.alloc (.cells #[.int .i64 id, .int .i64 n, .int .i64 0, .bool true, .slice (some ⟨gs, 0, none⟩) 8 8, .slice (some ⟨gc, 0, none⟩) 8 8, .slice none 0 0, .slice none 0 0] 27) = w1 at M0 C0 K0 B0 ⊢
  have c4 := (blk_cell K0.out 4 (x := .slice (some ⟨gs, 0, none⟩) 8 8) rfl).1
  have H1 : Hid (Calls Try.prog 36 #[.slice (some ⟨gs, 0, none⟩) 8 8, .int .i64 1] w1 fun e w' => e = .returned (.int .i64 25) ∧ (∃ f', MS w' gs 8 f' ∧ ∀ j, j < 8 → f' j = mf 1 j) ∧ w1.grownBy w' (some gs)) := markSlots gs 8 8 1 f w1 M0.out (by decide) (by decide) (by decide)
  go_wp2_with fail
  refine H1.out.mono ?_
  rintro e w2 ⟨rfl, m2, g2⟩
  have M2 : Hid (∃ f', MS w2 gs 8 f' ∧ ∀ j, j < 8 → f' j = mf 1 j) := m2
  have C2 : Hid (MC w2 gc 8 h) := C0.out.kept (g2.block gc C0.out.lt (by simp; omega))
  have K2 : Hid (w2.heap[w.heap.size]? = some (.cells #[.int .i64 id, .int .i64 n, .int .i64 0, .bool true, .slice (some ⟨gs, 0, none⟩) 8 8, .slice (some ⟨gc, 0, none⟩) 8 8, .slice none 0 0, .slice none 0 0] 27 (0, 0))) := (g2.block _ (Array.getElem?_eq_some_iff.1 K0.out).1 (by simp; omega)).trans K0.out
  have B2 : Hid (∀ B, B ≤ w.heap.size → B ≤ gs → Below B w w2 ∧ B ≤ w2.heap.size) := fun B hB hg => by
    obtain ⟨h1, h2⟩ := B0.out B hB
    have h3 := h1.trans (grown_bel g2 h2 hg)
    exact ⟨h3, Nat.le_trans hB h3.size⟩
  have Z2 : Hid (∀ k, k < w.heap.size → k ≠ gs → w2.heap[k]? = w.heap[k]? ∧ k < w2.heap.size) := fun k hk hn => by
    obtain ⟨h1, h2⟩ := B0.out (k + 1) (by omega)
    exact ⟨(g2.block k (by omega) (by simp; omega)).trans (h1.block k (by omega)), by have := g2.size; omega⟩
  clear m2 g2 M0 C0 K0 B0 H1 c4
  have c5 := (blk_cell K2.out 5 (x := .slice (some ⟨gc, 0, none⟩) 8 8) rfl).1
  have H2 : Hid (Calls Try.prog 37 #[.slice (some ⟨gc, 0, none⟩) 8 8, .int .i64 25] w2 fun e w' => e = .returned (.int .i64 33) ∧ (∃ f', MC w' gc 8 f' ∧ ∀ j, j < 8 → f' j = mtext (25 + j)) ∧ w2.grownBy w' (some gc)) := markCerts gc 8 8 25 h w2 C2.out (by decide) (by decide) (by decide)
  go_wp2_with fail
  refine H2.out.mono ?_
  rintro e w3 ⟨rfl, m3, g3⟩
  have M3 : Hid (∃ f', MS w3 gs 8 f' ∧ ∀ j, j < 8 → f' j = mf 1 j) := by
    obtain ⟨f', h1, h2⟩ := M2.out
    exact ⟨f', h1.kept (g3.block gs h1.lt (by simp; omega)), h2⟩
  have C3 : Hid (∃ h', MC w3 gc 8 h' ∧ ∀ j, j < 8 → h' j = mtext (25 + j)) := m3
  have K3 : Hid (w3.heap[w.heap.size]? = some (.cells #[.int .i64 id, .int .i64 n, .int .i64 0, .bool true, .slice (some ⟨gs, 0, none⟩) 8 8, .slice (some ⟨gc, 0, none⟩) 8 8, .slice none 0 0, .slice none 0 0] 27 (0, 0))) := (g3.block _ (Array.getElem?_eq_some_iff.1 K2.out).1 (by simp; omega)).trans K2.out
  have B3 : Hid (∀ B, B ≤ w.heap.size → B ≤ gs → B ≤ gc → Below B w w3) := fun B hB hg hq => by
    obtain ⟨h1, h2⟩ := B2.out B hB hg
    exact h1.trans (grown_bel g3 h2 hq)
  have Z3 : Hid (∀ k, k < w.heap.size → k ≠ gs → k ≠ gc → w3.heap[k]? = w.heap[k]?) := fun k hk hn hq => by
    obtain ⟨h1, h2⟩ := Z2.out k hk hn
    exact (g3.block k h2 (by simp; omega)).trans h1
  clear m3 g3 M2 C2 K2 B2 H2 c5 Z2
  have c6 := (blk_cell K3.out 6 (x := .slice none 0 0) rfl).1
  have c7 := (blk_cell K3.out 7 (x := .slice none 0 0) rfl).1
  go_wp2_with (first | (go_at_call 38; refine (markStr_nil _ _ _ _).mono ?_; rintro e w' ⟨rfl, rfl⟩) | (go_at_call 39; refine (markMsg_nil _ _ _ _).mono ?_; rintro e w' ⟨rfl, rfl⟩))
  go_ret
  exact ⟨rfl, M3.out, C3.out, B3.out, Z3.out⟩
set_option maxRecDepth 100000 in
set_option maxHeartbeats 800000 in
theorem heldRep (id n : Int) (gs gc : Nat) (w : World) (hs : ∃ f', MS w gs 8 f' ∧ ∀ j, j < 8 → f' j = mf 1 j) (hc : ∃ h', MC w gc 8 h' ∧ ∀ j, j < 8 → h' j = mtext (25 + j)) :
    Calls Try.prog 10 #[.agg #[.int .i64 id, .int .i64 n, .int .i64 0, .bool true, .slice (some ⟨gs, 0, none⟩) 8 8, .slice (some ⟨gc, 0, none⟩) 8 8, .slice none 0 0, .slice none 0 0], .int .i64 1] w fun e w' => e = .returned (.int .i64 33) ∧ Below w.heap.size w w' := by
  obtain ⟨f, hs, hf⟩ := hs
  obtain ⟨h, hc, hh⟩ := hc
  have B0 : Hid (Below w.heap.size w (w.alloc (.cells #[.int .i64 id, .int .i64 n, .int .i64 0, .bool true, .slice (some ⟨gs, 0, none⟩) 8 8, .slice (some ⟨gc, 0, none⟩) 8 8, .slice none 0 0, .slice none 0 0] 27))) := bel_new _ _
  have K0 : Hid ((w.alloc (.cells #[.int .i64 id, .int .i64 n, .int .i64 0, .bool true, .slice (some ⟨gs, 0, none⟩) 8 8, .slice (some ⟨gc, 0, none⟩) 8 8, .slice none 0 0, .slice none 0 0] 27)).heap[w.heap.size]? = some (.cells #[.int .i64 id, .int .i64 n, .int .i64 0, .bool true, .slice (some ⟨gs, 0, none⟩) 8 8, .slice (some ⟨gc, 0, none⟩) 8 8, .slice none 0 0, .slice none 0 0] 27 (0, 0))) := blk_new _ _ _
  have HM : Hid (∀ W, Below w.heap.size w W → MS W gs 8 f ∧ MC W gc 8 h) := fun W hW => ⟨hs.below hW, hc.below hW⟩
  have HF : Hid ((∀ j, j < 8 → f j = mf 1 j) ∧ ∀ j, j < 8 → h j = mtext (25 + j)) := ⟨hf, hh⟩
  clear hs hc hf hh
  go_enter Try.func10, Try.ntmps10
  go_upto_region 1 with fail
  generalize w.alloc (.cells #[.int .i64 id, .int .i64 n, .int .i64 0, .bool true, .slice (some ⟨gs, 0, none⟩) 8 8, .slice (some ⟨gc, 0, none⟩) 8 8, .slice none 0 0, .slice none 0 0] 27) = w1 at B0 K0 ⊢
  have c4 := (blk_cell K0.out 4 (x := .slice (some ⟨gs, 0, none⟩) 8 8) rfl).1
  have H1 : Hid (Calls Try.prog 40 #[.slice (some ⟨gs, 0, none⟩) 8 8, .int .i64 1] w1 fun e w' => e = .returned (.int .i64 25) ∧ Below w1.heap.size w1 w') := heldSlots gs 8 8 1 f w1 (HM.out _ B0.out).1 HF.out.1 (by decide) (by decide) (by decide)
  go_wp2_with fail
  refine H1.out.mono ?_
  rintro e w2 ⟨rfl, b2⟩
  have B2 : Hid (Below w.heap.size w w2) := B0.out.trans (b2.mono B0.out.size)
  have K2 : Hid (w2.heap[w.heap.size]? = some (.cells #[.int .i64 id, .int .i64 n, .int .i64 0, .bool true, .slice (some ⟨gs, 0, none⟩) 8 8, .slice (some ⟨gc, 0, none⟩) 8 8, .slice none 0 0, .slice none 0 0] 27 (0, 0))) := (b2.block _ (Array.getElem?_eq_some_iff.1 K0.out).1).trans K0.out
  clear b2 B0 K0 H1 c4
  have c5 := (blk_cell K2.out 5 (x := .slice (some ⟨gc, 0, none⟩) 8 8) rfl).1
  have H2 : Hid (Calls Try.prog 41 #[.slice (some ⟨gc, 0, none⟩) 8 8, .int .i64 25] w2 fun e w' => e = .returned (.int .i64 33) ∧ Below w2.heap.size w2 w') := heldCerts gc 8 8 25 h w2 (HM.out _ B2.out).2 HF.out.2 (by decide) (by decide) (by decide)
  go_wp2_with fail
  refine H2.out.mono ?_
  rintro e w3 ⟨rfl, b3⟩
  have B3 : Hid (Below w.heap.size w w3) := B2.out.trans (b3.mono B2.out.size)
  have K3 : Hid (w3.heap[w.heap.size]? = some (.cells #[.int .i64 id, .int .i64 n, .int .i64 0, .bool true, .slice (some ⟨gs, 0, none⟩) 8 8, .slice (some ⟨gc, 0, none⟩) 8 8, .slice none 0 0, .slice none 0 0] 27 (0, 0))) := (b3.block _ (Array.getElem?_eq_some_iff.1 K2.out).1).trans K2.out
  clear b3 B2 K2 H2 c5
  have c6 := (blk_cell K3.out 6 (x := .slice none 0 0) rfl).1
  have c7 := (blk_cell K3.out 7 (x := .slice none 0 0) rfl).1
  go_wp2_with (first | (go_at_call 42; refine (heldStr_nil _ _ _ _).mono ?_; rintro e w' ⟨rfl, rfl⟩) | (go_at_call 43; refine (heldMsg_nil _ _ _ _).mono ?_; rintro e w' ⟨rfl, rfl⟩))
  go_ret
  exact ⟨rfl, B3.out⟩
set_option maxRecDepth 100000 in
set_option maxHeartbeats 800000 in
theorem markZero (w : World) : Calls Try.prog 9 #[.agg #[.int .i64 0, .int .i64 0, .int .i64 0, .bool false, .slice none 0 0, .slice none 0 0, .slice none 0 0, .slice none 0 0], .int .i64 1] w fun e w' => e = .returned (.int .i64 1) ∧ Below w.heap.size w w' := by
  have H0 : Hid (∀ o, Below w.heap.size w (w.alloc o)) := fun o => bel_new _ _
  go_enter Try.func9, Try.ntmps9
  go_wp2_with (first | (go_at_call 36; refine (markSlot_nil _ _ _ _).mono ?_; rintro e w' ⟨rfl, rfl⟩) | (go_at_call 37; refine (markCert_nil _ _ _ _).mono ?_; rintro e w' ⟨rfl, rfl⟩) | (go_at_call 38; refine (markStr_nil _ _ _ _).mono ?_; rintro e w' ⟨rfl, rfl⟩) | (go_at_call 39; refine (markMsg_nil _ _ _ _).mono ?_; rintro e w' ⟨rfl, rfl⟩))
  go_ret
  exact ⟨rfl, H0.out _⟩
set_option maxRecDepth 100000 in
set_option maxHeartbeats 800000 in
theorem heldZero (w : World) : Calls Try.prog 10 #[.agg #[.int .i64 0, .int .i64 0, .int .i64 0, .bool false, .slice none 0 0, .slice none 0 0, .slice none 0 0, .slice none 0 0], .int .i64 1] w fun e w' => e = .returned (.int .i64 1) ∧ Below w.heap.size w w' := by
  have H0 : Hid (∀ o, Below w.heap.size w (w.alloc o)) := fun o => bel_new _ _
  go_enter Try.func10, Try.ntmps10
  go_wp2_with (first | (go_at_call 40; refine (heldSlot_nil _ _ _ _).mono ?_; rintro e w' ⟨rfl, rfl⟩) | (go_at_call 41; refine (heldCert_nil _ _ _ _).mono ?_; rintro e w' ⟨rfl, rfl⟩) | (go_at_call 42; refine (heldStr_nil _ _ _ _).mono ?_; rintro e w' ⟨rfl, rfl⟩) | (go_at_call 43; refine (heldMsg_nil _ _ _ _).mono ?_; rintro e w' ⟨rfl, rfl⟩))
  go_ret
  exact ⟨rfl, H0.out _⟩
theorem MS.rowE {w : World} {g : Nat} (h : MS w g 8 (fun _ => (⟨#[]⟩, false, false))) : RowG 5 E5 w (.slice (some ⟨g, 0, none⟩) 8 8) (List.replicate 8 ()) := by
  refine ⟨_, 8, rfl, .inr ⟨g, 0, rfl, by decide, h.lt, fun i x hi => ?_⟩⟩
  have hil := lt_at hi
  obtain ⟨⟨a0, _⟩, a1, a2, ⟨a3, _⟩, a4, _⟩ := h.cells (show i < 8 from hil)
  rw [Nat.zero_add]
  exact ⟨a0, ⟨_, _, a1⟩, ⟨_, _, a2⟩, a3, a4⟩
theorem MC.rowE {w : World} {g : Nat} (h : MC w g 8 (fun _ => ⟨#[]⟩)) : RowG 2 E2 w (.slice (some ⟨g, 0, none⟩) 8 8) (List.replicate 8 ()) := by
  refine ⟨_, 8, rfl, .inr ⟨g, 0, rfl, by decide, h.lt, fun i x hi => ?_⟩⟩
  have hil := lt_at hi
  obtain ⟨⟨a0, _⟩, a1⟩ := h.cells (show i < 8 from hil)
  rw [Nat.zero_add]
  exact ⟨a0, _, _, a1⟩
theorem row_nil5 (w : World) : RowG 5 E5 w (.slice none 0 0) [] := ⟨none, 0, rfl, .inl rfl⟩
theorem row_nil2 (w : World) : RowG 2 E2 w (.slice none 0 0) [] := ⟨none, 0, rfl, .inl rfl⟩
end Go.Proofs.Ytdeologdmdimoaa.Nr
